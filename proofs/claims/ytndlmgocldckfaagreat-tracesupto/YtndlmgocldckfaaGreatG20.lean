import Derived.Test.YtndlmgocldckfaaGreatBkT
import Derived.Test.YtndlmgocldckfaaGreatG09
import Derived.Test.YtndlmgocldckfaaGreatG17
import Derived.Test.YtndlmgocldckfaaGreatG15
import Derived.Deep.CutRange
import Derived.Deep.DeepCutAuto
import Derived.Test.YtndlmgocldckfaaGreatG19
import Derived.Deep.RegionWith
namespace Go.Proofs.YtndlmgocldckfaaGreat
open Go.RowKit
set_option linter.unusedVariables false
set_option linter.unusedSimpArgs false
set_option maxRecDepth 100000
set_option maxHeartbeats 4000000
structure MarkY (w wr : World) (Z : Nat) (l : Value) (n : Nat) (m : Int) (j : Nat) : Prop where
 only : Only (fun b => some b = l.ownBlock) w wr
 own : ∃ ys, ys.length = n ∧ BRowN Z wr l ys ∧ ys.take j = List.replicate j m
theorem MarkY.out {w wr : World} {Z : Nat} {l : Value} {n : Nat} {m : Int} (h : MarkY w wr Z l n m n) : BRowN Z wr l (List.replicate n m) := by
 obtain ⟨ys, h1, h2, h3⟩ := h.own
 rw [List.take_of_length_le (by omega)] at h3
 rw [← h3]; exact h2
theorem MarkY.next {w wr : World} {Z : Nat} {g n c j : Nat} {m : Int} (h : MarkY w wr Z (.slice (some ⟨g, 0, none⟩) n c) n m j) (hj : j < n) : MarkY w (wr.setCell ⟨g, j, none⟩ (.int .u8 m)) Z (.slice (some ⟨g, 0, none⟩) n c) n m (j + 1) := by
 obtain ⟨ys, h1, h2, h3⟩ := h.own
 refine ⟨h.only.setCell (p := ⟨g, j, none⟩) rfl _, ys.set j m, by simpa using h1, ?_, ?_⟩
 ·rcases h2 with ⟨hc, _⟩ | h2
  ·simp at hc
  ·exact .inr (h2.set j (by omega) m)
 ·rw [List.take_succ_eq_append_getElem (by simp; omega), List.take_set_of_le (Nat.le_refl _), h3]
  simp [List.replicate_succ']
theorem PendB.start {w wr w3 : World} {wb : Nat} {k : BkD} {x : List Value} {l v1 v2 v3 : Value} {j : Nat} (h : BkP w wb k) (hj : j ≤ 1000000) (hls : ∀ b, some b = l.ownBlock → ¬ k.set b ∧ b ≠ wb) (ho : Only (fun b => some b = l.ownBlock) w wr)
  (h3 : (Only (fun b => some b = l.ownBlock) wr w3 ∧ ∀ v n, (v, n) ∈ [(l, j), (v1, j + 1), (v2, j + 2), (v3, j + 3)] → Fill w3 v n (reps n x) ∧ ∀ b, some b = v.ownBlock → (some b = l.ownBlock ∨ wr.heap.size ≤ b) ∧ b < w3.heap.size) ∧ ∀ v n, (v, n) ∈ [(l, j), (v1, j + 1), (v2, j + 2), (v3, j + 3)] → Free w3 v) :
  PendB wb x k k (fun b => some b = l.ownBlock ∨ w.heap.size ≤ b) w w3 [(l, j), (v1, j + 1), (v2, j + 2), (v3, j + 3)] := by
 refine ⟨pend_start h hj hls ho h3.1, h3.2, ?_⟩
 rintro i u b hu hb (hc | hc)
 ·exact absurd (.inl ⟨u, .inl (List.mem_of_getElem? hu), hb⟩) (hls b hc).1
 ·have := h.ok.elt b ⟨u, .inl (List.mem_of_getElem? hu), hb⟩
  omega
theorem keepsBytes_any {Z : Nat} (wb : Nat) (k : BkD) (la : Option Addr) (n lc : Nat) (xs : List Int) (w : World) (h : BkP w wb k) (hl : BRowN Z w (.slice la n lc) xs) (hxl : xs.length = n) (hZ : Z ≤ w.heap.size) (hn : n ≤ 1000000) (h4 : k.bl.length % 4 = 0) (hlen : k.bl.length ≤ 1099511627776) (hls : ∀ b, some b = (Value.slice la n lc).ownBlock → ¬ k.set b ∧ b ≠ wb) :
  Calls Tryz.prog 41 #[.pointer (some ⟨wb, 1, none⟩), .slice la n lc] w fun e w' => e = .returned (.tuple #[]) ∧ ∃ k', BkStep wb k k' (fun b => some b = (Value.slice la n lc).ownBlock) w w' ∧ k'.bl.length = k.bl.length + 4 ∧ k'.rl = k.rl ∧ k'.il = k.il := by
 obtain ⟨K, hK⟩ : ∃ K : BkD, K = k := ⟨_, rfl⟩
 have HK := hide hK
 clear hK
 have hc1 := h.c1
 obtain ⟨ia, ic, hbv⟩ := owns_formK h.ok.bown
 rw [hbv] at hc1
 have H := hide h
 have Hl := hide hl
 have Hxl := hide hxl
 have Hbv := hide hbv
 obtain ⟨m, hm⟩ : ∃ m : Int, m = 200 + ((k.bl.length / 4 % 50 : Nat) : Int) := ⟨_, rfl⟩
 have Hm := hide hm
 have hwl := h.lt
 have HMk : Hid (∀ W, Calls Tryz.prog 19 #[.int .i64 k.bl.length] W fun e w' => e = .returned (.int .u8 m) ∧ w' = W) := by
  intro W
  rw [hm]
  exact mark_any k.bl.length W (by omega)
 clear h hl hbv hm hxl
 go_enter Tryz.func41, Tryz.ntmps41
 go_wp2_with (go_at_call 19; refine (HMk.out _).mono ?_; rintro e w1 ⟨rfl, hw1⟩; rw [hw1]; clear hw1 w1)
 go_loopw [5] (fun i wr => ∃ (j : Nat), j ≤ n ∧ i = .int .i64 j ∧ Hid (MarkY w wr Z (.slice la n lc) n m j)) (fun i _ => n - (intOf i).toNat)
 case atStart => exact ⟨0, Nat.zero_le _, rfl, Only.refl _ _, xs, Hxl.out, Hl.out, rfl⟩
 case round =>
  obtain ⟨j, hj, rfl, hI⟩ := hrel
  by_cases hlt : j < n
  ·have d1 : decide ((j : Int) < (n : Int)) = true := by simp; omega
   have hjj : (j : Int) < (n : Int) := by omega
   have hw : IntKind.i64.wrap ((j : Int) + 1) = (j : Int) + 1 := by rw [IntKind.wrap_i64]; omega
   obtain ⟨g, u, rfl, hu, hfz⟩ : ∃ g u, la = some ⟨g, 0, none⟩ ∧ wr.cell? ⟨g, j, none⟩ = some u ∧ wr.frozen? ⟨g, j, none⟩ = false := by
    obtain ⟨ys, q1, q2, _⟩ := hI.out.own
    have hF := q2.unfrozen
    rcases q2 with ⟨_, hc⟩ | q2
    ·rw [hc] at q1; simp at q1; omega
    ·obtain ⟨g, cap, e, _, _, hr⟩ := q2.row
     simp only [Value.slice.injEq] at e
     have hc := hr j (.int .u8 (ys[j]'(by omega))) (by simp [byteV, show j < ys.length by omega])
     rw [Nat.zero_add] at hc
     exact ⟨g, _, e.1, hc, (hF g (by rw [e.1]; rfl)).2 j _ hc⟩
   go_wp2_with fail
   go_roundw
   case rel => exact ⟨j + 1, by omega, by go_num, hI.out.next hlt⟩
   case measure => simp [intOf]; omega
  ·have d1 : decide ((j : Int) < (n : Int)) = false := by simp; omega
   have hjn : j = n := by omega
   subst hjn
   rename World => wr
   have HO := hide hI.out.out
   have HOn := hide hI.out.only
   clear hI
   have hzr := HOn.out.size
   have hrl : ∀ q : Nat, (List.replicate q m).length = q := fun q => List.length_replicate
   have HN1 : Hid (RowAt (wr.alloc (.cells #[.int .u8 m] 5)) wr.heap.size 0 (byteV (List.replicate 1 m))) := row_new wr _ [.int .u8 m]
   go_wp2_with (at_builtin; refine wpList_append_bk rfl (.tmp 25) (.tmp 27) rfl Z (.slice la j lc) (List.replicate j m) rfl (HO.out.below (alloc_below _ _)) wr.heap.size 1 (List.replicate 1 m) (by simp) rfl HN1.out (by simp; omega) (by simp; omega) ?_)
   intro v1 w1 hown1 hg1 hk1
   replace hown1 : Hid (BRow Z w1 v1 (List.replicate (j + 1) m)) := by have e : List.replicate j m ++ List.replicate 1 m = List.replicate (j + 1) m := List.replicate_append_replicate; show BRow _ _ _ _; rw [← e]; exact hown1.out
   obtain ⟨va1, vc1, rfl⟩ : ∃ a c, v1 = .slice a (j + 1) c := by obtain ⟨g, cap, e⟩ := hown1.out.form; exact ⟨_, _, by rw [e, List.length_replicate]⟩
   have hz1 := hg1.out.size
   simp only [World.size_alloc] at hz1
   have HN2 : Hid (RowAt (w1.alloc (.cells #[.int .u8 m, .int .u8 m] 5)) w1.heap.size 0 (byteV (List.replicate 2 m))) := row_new w1 _ [.int .u8 m, .int .u8 m]
   go_wp2_with (at_builtin; refine wpList_append_bk rfl (.tmp 29) (.tmp 32) rfl Z (.slice la j lc) (List.replicate j m) rfl (hk1.out.1.below (alloc_below _ _)) w1.heap.size 2 (List.replicate 2 m) (by simp) rfl HN2.out (by simp; omega) (by simp; omega) ?_)
   intro v2 w2 hown2 hg2 hk2
   replace hown2 : Hid (BRow Z w2 v2 (List.replicate (j + 2) m)) := by have e : List.replicate j m ++ List.replicate 2 m = List.replicate (j + 2) m := List.replicate_append_replicate; show BRow _ _ _ _; rw [← e]; exact hown2.out
   obtain ⟨va2, vc2, rfl⟩ : ∃ a c, v2 = .slice a (j + 2) c := by obtain ⟨g, cap, e⟩ := hown2.out.form; exact ⟨_, _, by rw [e, List.length_replicate]⟩
   have hz2 := hg2.out.size
   simp only [World.size_alloc] at hz2
   have HN3 : Hid (RowAt (w2.alloc (.cells #[.int .u8 m, .int .u8 m, .int .u8 m] 5)) w2.heap.size 0 (byteV (List.replicate 3 m))) := row_new w2 _ [.int .u8 m, .int .u8 m, .int .u8 m]
   go_wp2_with (at_builtin; refine wpList_append_bk rfl (.tmp 34) (.tmp 38) rfl Z (.slice la j lc) (List.replicate j m) rfl (hk2.out.1.below (alloc_below _ _)) w2.heap.size 3 (List.replicate 3 m) (by simp) rfl HN3.out (by simp; omega) (by simp; omega) ?_)
   intro v3 w3 hown3 hg3 hk3
   replace hown3 : Hid (BRow Z w3 v3 (List.replicate (j + 3) m)) := by have e : List.replicate j m ++ List.replicate 3 m = List.replicate (j + 3) m := List.replicate_append_replicate; show BRow _ _ _ _; rw [← e]; exact hown3.out
   obtain ⟨va3, vc3, rfl⟩ : ∃ a c, v3 = .slice a (j + 3) c := by obtain ⟨g, cap, e⟩ := hown3.out.form; exact ⟨_, _, by rw [e, List.length_replicate]⟩
   have hz3 := hg3.out.size
   simp only [World.size_alloc] at hz3
   have HP0 := hide (PendB.start H.out (by omega) hls HOn.out (three_bytes HO.out (alloc_below _ _) hown1.out hg1.out hk1.out (by simp) (alloc_below _ _) hown2.out hg2.out hk2.out (by simp) (alloc_below _ _) hown3.out hg3.out hk3.out (by simp)))
   clear hown1 hg1 hk1 hown2 hg2 hk2 hown3 hg3 hk3 HO HOn H hls Hl hwl hrl HN1 HN2 HN3 HMk
   have hL0 : Hid (k.bl.length = K.bl.length + 0 ∧ k.rl = K.rl ∧ k.il = K.il) := by rw [HK.out]; exact ⟨rfl, rfl, rfl⟩
   have e0 := HP0.out.pend.st.p.c1
   have hw0 := HP0.out.pend.st.p.lt
   have hmk0 : Hid (markB k.bl.length = [.int .u8 m]) := by show _ = _; rw [Hm.out]; rfl
   have hlen0 : k.bl.length ≤ 1099511627776 + 0 := by have := hL0.out.1; rw [HK.out] at this; omega
   go_wp2_with (at_builtin; refine wpList_append_src rfl (.tmp 44) (.tmp 46) 29 rfl 0 56 (.slice none 0 0) 1 24 Tryz.underlying29 Tryz.infoBs rfl (by omega) _ k.bl.length k.bl rfl (HP0.out.pend.st.p.ok.bown.alloc _) _ 1 [(.slice la j lc)] rfl (.inr (.inl ⟨w3.heap.size, 0, 1, rfl, row_new w3 _ [(.slice la j lc)]⟩)) rfl (by intro u hu; simp at hu; subst hu; rfl) (by omega) (by omega) (by omega) ?_)
   intro u0 x0 xo0 xg0 xw0
   obtain ⟨f0, z0⟩ := HP0.out.pend.midB (alloc_below _ _) xg0.out
   obtain ⟨ua0, uc0, rfl⟩ := owns_formK xo0.out
   have HQ0 := hide (HP0.out.pushB hmk0.out rfl (alloc_below _ _) xg0.out xo0.out (by simpa using xw0.out))
   obtain ⟨k1, hkn0⟩ : ∃ zz : BkD, zz = { k with bv := .slice ua0 (k.bl.length + 1) uc0, bl := k.bl ++ [(.slice la j lc)] } := ⟨_, rfl⟩
   have hL1 : Hid (k1.bl.length = K.bl.length + 1 ∧ k1.rl = K.rl ∧ k1.il = K.il) := by
    have := hL0.out
    rw [hkn0]
    exact ⟨by simp only [List.length_append, List.length_cons, List.length_nil]; omega, this.2.1, this.2.2⟩
   have hbv1 : Hid (k1.bv = .slice ua0 (k.bl.length + 1) uc0) := by show _ = _; rw [hkn0]
   rw [← hkn0] at HQ0
   obtain ⟨y1, hy1⟩ : ∃ y, Hid (y = x0.setCell ⟨wb, 1, none⟩ (.slice ua0 (k.bl.length + 1) uc0)) := ⟨_, rfl⟩
   have hsz1 : Hid (y1.heap.size = x0.heap.size) := by show _ = _; rw [hy1.out]; simp [World.setCell]
   have HP1 := HQ0
   rw [← hy1.out] at HP1
   clear hkn0 xo0 xg0 xw0 hmk0 HQ0 HP0 e0
   have hw1 := HP1.out.pend.st.p.lt
   have hmk1 : Hid (markB k1.bl.length = [.int .u8 m]) := by show _ = _; have q1 := hL1.out.1; have q2 := h4; rw [← HK.out] at q2; rw [Hm.out, markB, ← HK.out, q1]; congr 5; try omega
   have hlen1 : k1.bl.length ≤ 1099511627776 + 1 := by have := hL1.out.1; rw [HK.out] at this; omega
   have H4_1 : Hid (k1.bl.length / 4 = k.bl.length / 4) := by show _ = _; have q1 := hL1.out.1; rw [HK.out] at q1; omega
   go_wp2_with (at_builtin; rw [← hy1.out]; refine wpList_append_src rfl (.tmp 54) (.tmp 56) 29 rfl 0 56 (.slice none 0 0) 1 24 Tryz.underlying29 Tryz.infoBs rfl (by omega) _ k1.bl.length k1.bl rfl ((own_cast hbv1.out HP1.out.pend.st.p.ok.bown).alloc _) _ 1 [(.slice va1 (j + 1) vc1)] rfl (.inr (.inl ⟨x0.heap.size, 0, 1, rfl, sized hsz1.out (row_new y1 _ [(.slice va1 (j + 1) vc1)])⟩)) rfl (by intro u hu; simp at hu; subst hu; rfl) (by omega) (by omega) (by omega) ?_)
   intro u1 x1 xo1 xg1 xw1
   rw [← hbv1.out] at xg1 xw1
   obtain ⟨f1, z1⟩ := HP1.out.pend.midB (alloc_below _ _) xg1.out
   obtain ⟨ua1, uc1, rfl⟩ := owns_formK xo1.out
   have HQ1 := hide (HP1.out.pushB hmk1.out H4_1.out (alloc_below _ _) xg1.out xo1.out (by simpa using xw1.out))
   obtain ⟨k2, hkn1⟩ : ∃ zz : BkD, zz = { k1 with bv := .slice ua1 (k1.bl.length + 1) uc1, bl := k1.bl ++ [(.slice va1 (j + 1) vc1)] } := ⟨_, rfl⟩
   have hL2 : Hid (k2.bl.length = K.bl.length + 2 ∧ k2.rl = K.rl ∧ k2.il = K.il) := by
    have := hL1.out
    rw [hkn1]
    exact ⟨by simp only [List.length_append, List.length_cons, List.length_nil]; omega, this.2.1, this.2.2⟩
   have hbv2 : Hid (k2.bv = .slice ua1 (k1.bl.length + 1) uc1) := by show _ = _; rw [hkn1]
   rw [← hkn1] at HQ1
   obtain ⟨y2, hy2⟩ : ∃ y, Hid (y = x1.setCell ⟨wb, 1, none⟩ (.slice ua1 (k1.bl.length + 1) uc1)) := ⟨_, rfl⟩
   have hsz2 : Hid (y2.heap.size = x1.heap.size) := by show _ = _; rw [hy2.out]; simp [World.setCell]
   have HP2 := HQ1
   rw [← hy2.out] at HP2
   clear hkn1 xo1 xg1 xw1 hmk1 HQ1 HP1
   have hw2 := HP2.out.pend.st.p.lt
   have hmk2 : Hid (markB k2.bl.length = [.int .u8 m]) := by show _ = _; have q1 := hL2.out.1; have q2 := h4; rw [← HK.out] at q2; rw [Hm.out, markB, ← HK.out, q1]; congr 5; try omega
   have hlen2 : k2.bl.length ≤ 1099511627776 + 2 := by have := hL2.out.1; rw [HK.out] at this; omega
   have H4_2 : Hid (k2.bl.length / 4 = k.bl.length / 4) := by show _ = _; have q1 := hL2.out.1; rw [HK.out] at q1; omega
   go_wp2_with (at_builtin; rw [← hy2.out]; refine wpList_append_src rfl (.tmp 64) (.tmp 66) 29 rfl 0 56 (.slice none 0 0) 1 24 Tryz.underlying29 Tryz.infoBs rfl (by omega) _ k2.bl.length k2.bl rfl ((own_cast hbv2.out HP2.out.pend.st.p.ok.bown).alloc _) _ 1 [(.slice va2 (j + 2) vc2)] rfl (.inr (.inl ⟨x1.heap.size, 0, 1, rfl, sized hsz2.out (row_new y2 _ [(.slice va2 (j + 2) vc2)])⟩)) rfl (by intro u hu; simp at hu; subst hu; rfl) (by omega) (by omega) (by omega) ?_)
   intro u2 x2 xo2 xg2 xw2
   rw [← hbv2.out] at xg2 xw2
   obtain ⟨f2, z2⟩ := HP2.out.pend.midB (alloc_below _ _) xg2.out
   obtain ⟨ua2, uc2, rfl⟩ := owns_formK xo2.out
   have HQ2 := hide (HP2.out.pushB hmk2.out H4_2.out (alloc_below _ _) xg2.out xo2.out (by simpa using xw2.out))
   obtain ⟨k3, hkn2⟩ : ∃ zz : BkD, zz = { k2 with bv := .slice ua2 (k2.bl.length + 1) uc2, bl := k2.bl ++ [(.slice va2 (j + 2) vc2)] } := ⟨_, rfl⟩
   have hL3 : Hid (k3.bl.length = K.bl.length + 3 ∧ k3.rl = K.rl ∧ k3.il = K.il) := by
    have := hL2.out
    rw [hkn2]
    exact ⟨by simp only [List.length_append, List.length_cons, List.length_nil]; omega, this.2.1, this.2.2⟩
   have hbv3 : Hid (k3.bv = .slice ua2 (k2.bl.length + 1) uc2) := by show _ = _; rw [hkn2]
   rw [← hkn2] at HQ2
   obtain ⟨y3, hy3⟩ : ∃ y, Hid (y = x2.setCell ⟨wb, 1, none⟩ (.slice ua2 (k2.bl.length + 1) uc2)) := ⟨_, rfl⟩
   have hsz3 : Hid (y3.heap.size = x2.heap.size) := by show _ = _; rw [hy3.out]; simp [World.setCell]
   have HP3 := HQ2
   rw [← hy3.out] at HP3
   clear hkn2 xo2 xg2 xw2 hmk2 HQ2 HP2
   have hw3 := HP3.out.pend.st.p.lt
   have hmk3 : Hid (markB k3.bl.length = [.int .u8 m]) := by show _ = _; have q1 := hL3.out.1; have q2 := h4; rw [← HK.out] at q2; rw [Hm.out, markB, ← HK.out, q1]; congr 5; try omega
   have hlen3 : k3.bl.length ≤ 1099511627776 + 3 := by have := hL3.out.1; rw [HK.out] at this; omega
   have H4_3 : Hid (k3.bl.length / 4 = k.bl.length / 4) := by show _ = _; have q1 := hL3.out.1; rw [HK.out] at q1; omega
   go_wp2_with (at_builtin; rw [← hy3.out]; refine wpList_append_src rfl (.tmp 74) (.tmp 76) 29 rfl 0 56 (.slice none 0 0) 1 24 Tryz.underlying29 Tryz.infoBs rfl (by omega) _ k3.bl.length k3.bl rfl ((own_cast hbv3.out HP3.out.pend.st.p.ok.bown).alloc _) _ 1 [(.slice va3 (j + 3) vc3)] rfl (.inr (.inl ⟨x2.heap.size, 0, 1, rfl, sized hsz3.out (row_new y3 _ [(.slice va3 (j + 3) vc3)])⟩)) rfl (by intro u hu; simp at hu; subst hu; rfl) (by omega) (by omega) (by omega) ?_)
   intro u3 x3 xo3 xg3 xw3
   rw [← hbv3.out] at xg3 xw3
   obtain ⟨f3, z3⟩ := HP3.out.pend.midB (alloc_below _ _) xg3.out
   obtain ⟨ua3, uc3, rfl⟩ := owns_formK xo3.out
   have HQ3 := hide (HP3.out.pushB hmk3.out H4_3.out (alloc_below _ _) xg3.out xo3.out (by simpa using xw3.out))
   obtain ⟨k4, hkn3⟩ : ∃ zz : BkD, zz = { k3 with bv := .slice ua3 (k3.bl.length + 1) uc3, bl := k3.bl ++ [(.slice va3 (j + 3) vc3)] } := ⟨_, rfl⟩
   have hL4 : Hid (k4.bl.length = K.bl.length + 4 ∧ k4.rl = K.rl ∧ k4.il = K.il) := by
    have := hL3.out
    rw [hkn3]
    exact ⟨by simp only [List.length_append, List.length_cons, List.length_nil]; omega, this.2.1, this.2.2⟩
   have hbv4 : Hid (k4.bv = .slice ua3 (k3.bl.length + 1) uc3) := by show _ = _; rw [hkn3]
   rw [← hkn3] at HQ3
   obtain ⟨y4, hy4⟩ : ∃ y, Hid (y = x3.setCell ⟨wb, 1, none⟩ (.slice ua3 (k3.bl.length + 1) uc3)) := ⟨_, rfl⟩
   have hsz4 : Hid (y4.heap.size = x3.heap.size) := by show _ = _; rw [hy4.out]; simp [World.setCell]
   have HP4 := HQ3
   rw [← hy4.out] at HP4
   clear hkn3 xo3 xg3 xw3 hmk3 HQ3 HP3
   go_wp2_with fail
   rw [← hy4.out]
   refine bodyPost_end (results_none rfl _ _ _) rfl ?_
   exact ⟨rfl, k4, HP4.out.pend.st.done, by rw [← HK.out]; exact hL4.out⟩
structure EvO (w : World) (eb : Nat) (a b c d : Int) : Prop where
 c0 : w.cell? ⟨eb, 0, none⟩ = some (.int .i64 a)
 c1 : w.cell? ⟨eb, 1, none⟩ = some (.int .i64 b)
 c2 : w.cell? ⟨eb, 2, none⟩ = some (.int .i64 c)
 c3 : w.cell? ⟨eb, 3, none⟩ = some (.int .i64 d)
 room : Room w eb 4
theorem EvO.only {w w' : World} {eb : Nat} {a b c d : Int} {S : Nat → Prop} (h : EvO w eb a b c d) (ho : Only S w w') (hn : ¬ S eb) : EvO w' eb a b c d :=
 ⟨ho.at h.c0 hn, ho.at h.c1 hn, ho.at h.c2 hn, ho.at h.c3 hn, h.room.only ho hn⟩
theorem EvO.new (w : World) (T : TypeId) : EvO (w.alloc (.cells #[.int .i64 0, .int .i64 0, .int .i64 0, .int .i64 0] T)) w.heap.size 0 0 0 0 := by
 refine ⟨by simp [go_sem], by simp [go_sem], by simp [go_sem], by simp [go_sem], ?_⟩
 intro j hj
 have : j = 0 ∨ j = 1 ∨ j = 2 ∨ j = 3 := by omega
 rcases this with rfl | rfl | rfl | rfl <;> simp [go_sem]
theorem EvO.set0 {w : World} {eb : Nat} {a b c d : Int} (h : EvO w eb a b c d) (x : Int) : EvO (w.setCell ⟨eb, 0, none⟩ (.int .i64 x)) eb x b c d :=
 ⟨World.cell?_setCell_same' _ _ _ (h.room 0 (by omega)).1, by rw [World.cell?_setCell_other _ _ _ _ (by simp)]; exact h.c1, by rw [World.cell?_setCell_other _ _ _ _ (by simp)]; exact h.c2, by rw [World.cell?_setCell_other _ _ _ _ (by simp)]; exact h.c3, h.room.setCell _ _⟩
theorem EvO.set1 {w : World} {eb : Nat} {a b c d : Int} (h : EvO w eb a b c d) (x : Int) : EvO (w.setCell ⟨eb, 1, none⟩ (.int .i64 x)) eb a x c d :=
 ⟨by rw [World.cell?_setCell_other _ _ _ _ (by simp)]; exact h.c0, World.cell?_setCell_same' _ _ _ (h.room 1 (by omega)).1, by rw [World.cell?_setCell_other _ _ _ _ (by simp)]; exact h.c2, by rw [World.cell?_setCell_other _ _ _ _ (by simp)]; exact h.c3, h.room.setCell _ _⟩
theorem EvO.set2 {w : World} {eb : Nat} {a b c d : Int} (h : EvO w eb a b c d) (x : Int) : EvO (w.setCell ⟨eb, 2, none⟩ (.int .i64 x)) eb a b x d :=
 ⟨by rw [World.cell?_setCell_other _ _ _ _ (by simp)]; exact h.c0, by rw [World.cell?_setCell_other _ _ _ _ (by simp)]; exact h.c1, World.cell?_setCell_same' _ _ _ (h.room 2 (by omega)).1, by rw [World.cell?_setCell_other _ _ _ _ (by simp)]; exact h.c3, h.room.setCell _ _⟩
theorem EvO.set3 {w : World} {eb : Nat} {a b c d : Int} (h : EvO w eb a b c d) (x : Int) : EvO (w.setCell ⟨eb, 3, none⟩ (.int .i64 x)) eb a b c x :=
 ⟨by rw [World.cell?_setCell_other _ _ _ _ (by simp)]; exact h.c0, by rw [World.cell?_setCell_other _ _ _ _ (by simp)]; exact h.c1, by rw [World.cell?_setCell_other _ _ _ _ (by simp)]; exact h.c2, World.cell?_setCell_same' _ _ _ (h.room 3 (by omega)).1, h.room.setCell _ _⟩
section
variable {R : Nat → Prop} {lo : Nat} {w0 w w' : World} {rb gb db eb : Nat} {ents : Int} {ks : List (List Ins)} {draws : List Int} {s : KS} {qv : Value} {m : Nat} {all l l' : List Int} {bad bad' : Bool}
structure Oth (R : Nat → Prop) (lo : Nat) (rb gb db : Nat) (qv : Value) (eb : Nat) : Prop where
 set : ¬ LkP.Set rb gb qv eb
 r : ¬ R eb
 d : eb ≠ db
 lo : lo ≤ eb
theorem LdS.other (h : LdS R lo w0 w rb gb db ents ks draws s qv m all l bad) (he : Oth R lo rb gb db qv eb) (ho : Only (· = eb) w w') : LdS R lo w0 w' rb gb db ents ks draws s qv m all l bad := by
 have hz := ho.size
 refine ⟨h.bel.trans (ho.below h.los.2.2.2 (fun k hk hc => by have := he.lo; omega)), h.ker.only ho (fun b hb hc => he.set (hc ▸ hb)) (fun b hb hc => he.r (hc ▸ hb)), h.rd.only ho (fun hc => he.d hc.symm), h.sep, h.rsep, ⟨h.los.1, h.los.2.1, h.los.2.2.1, by have := h.los.2.2.2; omega⟩⟩
theorem LdS.num (h : LdS R lo w0 w rb gb db ents ks draws s qv m all l bad) (hv : ∀ c ∈ all, 0 ≤ c ∧ c < 256) (hl : all.length ≤ 1000000000) (low high : Int) :
  Calls Tryz.prog 67 #[.pointer (some ⟨db, 0, none⟩), .int .i64 low, .int .i64 high] w fun e w' => e = .returned (.int .i64 (numL low high l bad).1) ∧ Only (· = db) w w' ∧ LdS R lo w0 w' rb gb db ents ks draws s qv m all (numL low high l bad).2.1 (numL low high l bad).2.2 := by
 refine (rdNum_any db all l bad low high w h.rd hv hl).mono ?_
 rintro e w' ⟨rfl, ho, hr⟩
 exact ⟨rfl, ho, h.read ho hr⟩
theorem LdS.bytes (h : LdS R lo w0 w rb gb db ents ks draws s qv m all l bad) (hv : ∀ c ∈ all, 0 ≤ c ∧ c < 256) : ∀ c ∈ l, 0 ≤ c ∧ c < 256 := h.rd.bytes hv
end
section
variable {R : Nat → Prop} {lo : Nat} {w w' : World} {rb gb : Nat} {ents : Int} {ks : List (List Ins)} {draws : List Int} {s : KS} {qv : Value} {m : Nat}
end
section
variable {R : Nat → Prop} {lo : Nat} {w0 w w' : World} {rb gb db : Nat} {ents : Int} {ks : List (List Ins)} {draws : List Int} {s : KS} {qv : Value} {m : Nat} {all l : List Int} {bad : Bool}
theorem LdS.put (h : LdS R lo w0 w rb gb db ents ks draws s qv m all l bad) {B j : Nat} {v : Value} {s' : KS} (hB : B = rb ∨ B = gb) (hk : LkP R lo (w.setCell ⟨B, j, none⟩ v) rb gb ents ks draws s' qv m) : LdS R lo w0 (w.setCell ⟨B, j, none⟩ v) rb gb db ents ks draws s' qv m all l bad := by
 have ho : Only (· = B) w (w.setCell ⟨B, j, none⟩ v) := Only.setCell (S := (· = B)) (Only.refl _ _) rfl _
 have hsz : (w.setCell ⟨B, j, none⟩ v).heap.size = w.heap.size := by simp [World.setCell]
 have hl := h.los
 refine ⟨h.bel.trans (ho.below hl.2.2.2 (fun k hk hc => by rcases hB with e | e <;> omega)), hk, h.rd.only ho (fun hc => h.sep ?_), h.sep, h.rsep, ⟨hl.1, hl.2.1, hl.2.2.1, by omega⟩⟩
 rcases hB with e | e
 ·exact .inl (by omega)
 ·exact .inr (.inl (by omega))
end
end Go.Proofs.YtndlmgocldckfaaGreat
