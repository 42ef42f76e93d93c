import Derived.Test.YtndlmgocldckfaaGreatBkT
import Derived.Test.YtndlmgocldckfaaGreatG21
import Derived.Test.YtndlmgocldckfaaGreatG27
import Derived.Test.YtndlmgocldckfaaGreatG34
import Derived.Test.YtndlmgocldckfaaGreatG39
import Derived.Test.YtndlmgocldckfaaGreatG19
namespace Go.Proofs.YtndlmgocldckfaaGreat
open Go.RowKit
set_option linter.unusedVariables false
set_option linter.unusedSimpArgs false
set_option maxRecDepth 100000
set_option maxHeartbeats 4000000
structure MarkY (w wr : World) (Z : Nat) (l : Value) (n : Nat) (m : Int) (j : Nat) : Prop where
 only : Only (fun b => some b = l.ownBlock) w wr
 own : ∃ ys, ys.length = n ∧ BRowN Z wr l ys ∧ ys.take j = List.replicate j m
theorem MarkY.out {w wr : World} {Z : Nat} {l : Value} {n : Nat} {m : Int} (h : MarkY w wr Z l n m n) : BRowN Z wr l (List.replicate n m) := by
 obtain ⟨ys, h1, h2, h3⟩ := h.own
 rw [List.take_of_length_le (by omega)] at h3
 rw [← h3]; exact h2
theorem MarkY.next {w wr : World} {Z : Nat} {g n c j : Nat} {m : Int} (h : MarkY w wr Z (.slice (some ⟨g, 0, none⟩) n c) n m j) (hj : j < n) : MarkY w (wr.setCell ⟨g, j, none⟩ (.int .u8 m)) Z (.slice (some ⟨g, 0, none⟩) n c) n m (j + 1) := by
 obtain ⟨ys, h1, h2, h3⟩ := h.own
 refine ⟨h.only.setCell (p := ⟨g, j, none⟩) rfl _, ys.set j m, by simpa using h1, ?_, ?_⟩
 ·rcases h2 with ⟨hc, _⟩ | h2
  ·simp at hc
  ·exact .inr (h2.set j (by omega) m)
 ·rw [List.take_succ_eq_append_getElem (by simp; omega), List.take_set_of_le (Nat.le_refl _), h3]
  simp [List.replicate_succ']
theorem PendB.start {w wr w3 : World} {wb : Nat} {k : BkD} {x : List Value} {l v1 v2 v3 : Value} {j : Nat} (h : BkP w wb k) (hj : j ≤ 1000000) (hls : ∀ b, some b = l.ownBlock → ¬ k.set b ∧ b ≠ wb) (ho : Only (fun b => some b = l.ownBlock) w wr)
  (h3 : (Only (fun b => some b = l.ownBlock) wr w3 ∧ ∀ v n, (v, n) ∈ [(l, j), (v1, j + 1), (v2, j + 2), (v3, j + 3)] → Fill w3 v n (reps n x) ∧ ∀ b, some b = v.ownBlock → (some b = l.ownBlock ∨ wr.heap.size ≤ b) ∧ b < w3.heap.size) ∧ ∀ v n, (v, n) ∈ [(l, j), (v1, j + 1), (v2, j + 2), (v3, j + 3)] → Free w3 v) :
  PendB wb x k k (fun b => some b = l.ownBlock ∨ w.heap.size ≤ b) w w3 [(l, j), (v1, j + 1), (v2, j + 2), (v3, j + 3)] := by
 refine ⟨pend_start h hj hls ho h3.1, h3.2, ?_⟩
 rintro i u b hu hb (hc | hc)
 ·exact absurd (.inl ⟨u, .inl (List.mem_of_getElem? hu), hb⟩) (hls b hc).1
 ·have := h.ok.elt b ⟨u, .inl (List.mem_of_getElem? hu), hb⟩
  omega
theorem keepsBytes_any {Z : Nat} (wb : Nat) (k : BkD) (la : Option Addr) (n lc : Nat) (xs : List Int) (w : World) (h : BkP w wb k) (hl : BRowN Z w (.slice la n lc) xs) (hxl : xs.length = n) (hZ : Z ≤ w.heap.size) (hn : n ≤ 1000000) (h4 : k.bl.length % 4 = 0) (hlen : k.bl.length ≤ 1099511627776) (hls : ∀ b, some b = (Value.slice la n lc).ownBlock → ¬ k.set b ∧ b ≠ wb) :
  Calls Tryz.prog 41 #[.pointer (some ⟨wb, 1, none⟩), .slice la n lc] w fun e w' => e = .returned (.tuple #[]) ∧ ∃ k', BkStep wb k k' (fun b => some b = (Value.slice la n lc).ownBlock) w w' ∧ k'.bl.length = k.bl.length + 4 ∧ k'.rl = k.rl ∧ k'.il = k.il := by
 obtain ⟨K, hK⟩ : ∃ K : BkD, K = k := ⟨_, rfl⟩
 have HK := hide hK
 clear hK
 have hc1 := h.c1
 obtain ⟨ia, ic, hbv⟩ := owns_formK h.ok.bown
 rw [hbv] at hc1
 have H := hide h
 have Hl := hide hl
 have Hxl := hide hxl
 have Hbv := hide hbv
 obtain ⟨m, hm⟩ : ∃ m : Int, m = 200 + ((k.bl.length / 4 % 50 : Nat) : Int) := ⟨_, rfl⟩
 have Hm := hide hm
 have hwl := h.lt
 have HMk : Hid (∀ W, Calls Tryz.prog 19 #[.int .i64 k.bl.length] W fun e w' => e = .returned (.int .u8 m) ∧ w' = W) := by
  intro W
  rw [hm]
  exact mark_any k.bl.length W (by omega)
 clear h hl hbv hm hxl
 go_enter Tryz.func41, Tryz.ntmps41
 go_wp2_with (go_at_call 19; refine (HMk.out _).mono ?_; rintro e w1 ⟨rfl, hw1⟩; rw [hw1]; clear hw1 w1)
 go_loopw [5] (fun i wr => ∃ (j : Nat), j ≤ n ∧ i = .int .i64 j ∧ Hid (MarkY w wr Z (.slice la n lc) n m j)) (fun i _ => n - (intOf i).toNat)
 case atStart => exact ⟨0, Nat.zero_le _, rfl, Only.refl _ _, xs, Hxl.out, Hl.out, rfl⟩
 case round =>
  obtain ⟨j, hj, rfl, hI⟩ := hrel
  by_cases hlt : j < n
  ·have d1 : decide ((j : Int) < (n : Int)) = true := by simp; omega
   have hjj : (j : Int) < (n : Int) := by omega
   have hw : IntKind.i64.wrap ((j : Int) + 1) = (j : Int) + 1 := by rw [IntKind.wrap_i64]; omega
   obtain ⟨g, u, rfl, hu, hfz⟩ : ∃ g u, la = some ⟨g, 0, none⟩ ∧ wr.cell? ⟨g, j, none⟩ = some u ∧ wr.frozen? ⟨g, j, none⟩ = false := by
    obtain ⟨ys, q1, q2, _⟩ := hI.out.own
    have hF := q2.unfrozen
    rcases q2 with ⟨_, hc⟩ | q2
    ·rw [hc] at q1; simp at q1; omega
    ·obtain ⟨g, cap, e, _, _, hr⟩ := q2.row
     simp only [Value.slice.injEq] at e
     have hc := hr j (.int .u8 (ys[j]'(by omega))) (by simp [byteV, show j < ys.length by omega])
     rw [Nat.zero_add] at hc
     exact ⟨g, _, e.1, hc, (hF g (by rw [e.1]; rfl)).2 j _ hc⟩
   go_wp2_with fail
   go_roundw
   case rel => exact ⟨j + 1, by omega, by go_num, hI.out.next hlt⟩
   case measure => simp [intOf]; omega
  ·have d1 : decide ((j : Int) < (n : Int)) = false := by simp; omega
   have hjn : j = n := by omega
   subst hjn
   rename World => wr
   have HO := hide hI.out.out
   have HOn := hide hI.out.only
   clear hI
   have hzr := HOn.out.size
   have hrl : ∀ q : Nat, (List.replicate q m).length = q := fun q => List.length_replicate
   have HN1 : Hid (RowAt (wr.alloc (.cells #[.int .u8 m] 5)) wr.heap.size 0 (byteV (List.replicate 1 m))) := row_new wr _ [.int .u8 m]
   go_wp2_with (at_builtin; refine wpList_append_bk rfl (.tmp 25) (.tmp 27) rfl Z (.slice la j lc) (List.replicate j m) rfl (HO.out.below (alloc_below _ _)) wr.heap.size 1 (List.replicate 1 m) (by simp) rfl HN1.out (by simp; omega) (by simp; omega) ?_)
   intro v1 w1 hown1 hg1 hk1
   replace hown1 : Hid (BRow Z w1 v1 (List.replicate (j + 1) m)) := by have e : List.replicate j m ++ List.replicate 1 m = List.replicate (j + 1) m := List.replicate_append_replicate; show BRow _ _ _ _; rw [← e]; exact hown1.out
   obtain ⟨va1, vc1, rfl⟩ : ∃ a c, v1 = .slice a (j + 1) c := by obtain ⟨g, cap, e⟩ := hown1.out.form; exact ⟨_, _, by rw [e, List.length_replicate]⟩
   have hz1 := hg1.out.size
   simp only [World.size_alloc] at hz1
   have HN2 : Hid (RowAt (w1.alloc (.cells #[.int .u8 m, .int .u8 m] 5)) w1.heap.size 0 (byteV (List.replicate 2 m))) := row_new w1 _ [.int .u8 m, .int .u8 m]
   go_wp2_with (at_builtin; refine wpList_append_bk rfl (.tmp 29) (.tmp 32) rfl Z (.slice la j lc) (List.replicate j m) rfl (hk1.out.1.below (alloc_below _ _)) w1.heap.size 2 (List.replicate 2 m) (by simp) rfl HN2.out (by simp; omega) (by simp; omega) ?_)
   intro v2 w2 hown2 hg2 hk2
   replace hown2 : Hid (BRow Z w2 v2 (List.replicate (j + 2) m)) := by have e : List.replicate j m ++ List.replicate 2 m = List.replicate (j + 2) m := List.replicate_append_replicate; show BRow _ _ _ _; rw [← e]; exact hown2.out
   obtain ⟨va2, vc2, rfl⟩ : ∃ a c, v2 = .slice a (j + 2) c := by obtain ⟨g, cap, e⟩ := hown2.out.form; exact ⟨_, _, by rw [e, List.length_replicate]⟩
   have hz2 := hg2.out.size
   simp only [World.size_alloc] at hz2
   have HN3 : Hid (RowAt (w2.alloc (.cells #[.int .u8 m, .int .u8 m, .int .u8 m] 5)) w2.heap.size 0 (byteV (List.replicate 3 m))) := row_new w2 _ [.int .u8 m, .int .u8 m, .int .u8 m]
   go_wp2_with (at_builtin; refine wpList_append_bk rfl (.tmp 34) (.tmp 38) rfl Z (.slice la j lc) (List.replicate j m) rfl (hk2.out.1.below (alloc_below _ _)) w2.heap.size 3 (List.replicate 3 m) (by simp) rfl HN3.out (by simp; omega) (by simp; omega) ?_)
   intro v3 w3 hown3 hg3 hk3
   replace hown3 : Hid (BRow Z w3 v3 (List.replicate (j + 3) m)) := by have e : List.replicate j m ++ List.replicate 3 m = List.replicate (j + 3) m := List.replicate_append_replicate; show BRow _ _ _ _; rw [← e]; exact hown3.out
   obtain ⟨va3, vc3, rfl⟩ : ∃ a c, v3 = .slice a (j + 3) c := by obtain ⟨g, cap, e⟩ := hown3.out.form; exact ⟨_, _, by rw [e, List.length_replicate]⟩
   have hz3 := hg3.out.size
   simp only [World.size_alloc] at hz3
   have HP0 := hide (PendB.start H.out (by omega) hls HOn.out (three_bytes HO.out (alloc_below _ _) hown1.out hg1.out hk1.out (by simp) (alloc_below _ _) hown2.out hg2.out hk2.out (by simp) (alloc_below _ _) hown3.out hg3.out hk3.out (by simp)))
   clear hown1 hg1 hk1 hown2 hg2 hk2 hown3 hg3 hk3 HO HOn H hls Hl hwl hrl HN1 HN2 HN3 HMk
   have hL0 : Hid (k.bl.length = K.bl.length + 0 ∧ k.rl = K.rl ∧ k.il = K.il) := by rw [HK.out]; exact ⟨rfl, rfl, rfl⟩
   have e0 := HP0.out.pend.st.p.c1
   have hw0 := HP0.out.pend.st.p.lt
   have hmk0 : Hid (markB k.bl.length = [.int .u8 m]) := by show _ = _; rw [Hm.out]; rfl
   have hlen0 : k.bl.length ≤ 1099511627776 + 0 := by have := hL0.out.1; rw [HK.out] at this; omega
   go_wp2_with (at_builtin; refine wpList_append_src rfl (.tmp 44) (.tmp 46) 29 rfl 0 56 (.slice none 0 0) 1 24 Tryz.underlying29 Tryz.infoBs rfl (by omega) _ k.bl.length k.bl rfl (HP0.out.pend.st.p.ok.bown.alloc _) _ 1 [(.slice la j lc)] rfl (.inr (.inl ⟨w3.heap.size, 0, 1, rfl, row_new w3 _ [(.slice la j lc)]⟩)) rfl (by intro u hu; simp at hu; subst hu; rfl) (by omega) (by omega) (by omega) ?_)
   intro u0 x0 xo0 xg0 xw0
   obtain ⟨f0, z0⟩ := HP0.out.pend.midB (alloc_below _ _) xg0.out
   obtain ⟨ua0, uc0, rfl⟩ := owns_formK xo0.out
   have HQ0 := hide (HP0.out.pushB hmk0.out rfl (alloc_below _ _) xg0.out xo0.out (by simpa using xw0.out))
   obtain ⟨k1, hkn0⟩ : ∃ zz : BkD, zz = { k with bv := .slice ua0 (k.bl.length + 1) uc0, bl := k.bl ++ [(.slice la j lc)] } := ⟨_, rfl⟩
   have hL1 : Hid (k1.bl.length = K.bl.length + 1 ∧ k1.rl = K.rl ∧ k1.il = K.il) := by
    have := hL0.out
    rw [hkn0]
    exact ⟨by simp only [List.length_append, List.length_cons, List.length_nil]; omega, this.2.1, this.2.2⟩
   have hbv1 : Hid (k1.bv = .slice ua0 (k.bl.length + 1) uc0) := by show _ = _; rw [hkn0]
   rw [← hkn0] at HQ0
   obtain ⟨y1, hy1⟩ : ∃ y, Hid (y = x0.setCell ⟨wb, 1, none⟩ (.slice ua0 (k.bl.length + 1) uc0)) := ⟨_, rfl⟩
   have hsz1 : Hid (y1.heap.size = x0.heap.size) := by show _ = _; rw [hy1.out]; simp [World.setCell]
   have HP1 := HQ0
   rw [← hy1.out] at HP1
   clear hkn0 xo0 xg0 xw0 hmk0 HQ0 HP0 e0
   have hw1 := HP1.out.pend.st.p.lt
   have hmk1 : Hid (markB k1.bl.length = [.int .u8 m]) := by show _ = _; have q1 := hL1.out.1; have q2 := h4; rw [← HK.out] at q2; rw [Hm.out, markB, ← HK.out, q1]; congr 5; try omega
   have hlen1 : k1.bl.length ≤ 1099511627776 + 1 := by have := hL1.out.1; rw [HK.out] at this; omega
   have H4_1 : Hid (k1.bl.length / 4 = k.bl.length / 4) := by show _ = _; have q1 := hL1.out.1; rw [HK.out] at q1; omega
   go_wp2_with (at_builtin; rw [← hy1.out]; refine wpList_append_src rfl (.tmp 54) (.tmp 56) 29 rfl 0 56 (.slice none 0 0) 1 24 Tryz.underlying29 Tryz.infoBs rfl (by omega) _ k1.bl.length k1.bl rfl ((own_cast hbv1.out HP1.out.pend.st.p.ok.bown).alloc _) _ 1 [(.slice va1 (j + 1) vc1)] rfl (.inr (.inl ⟨x0.heap.size, 0, 1, rfl, sized hsz1.out (row_new y1 _ [(.slice va1 (j + 1) vc1)])⟩)) rfl (by intro u hu; simp at hu; subst hu; rfl) (by omega) (by omega) (by omega) ?_)
   intro u1 x1 xo1 xg1 xw1
   rw [← hbv1.out] at xg1 xw1
   obtain ⟨f1, z1⟩ := HP1.out.pend.midB (alloc_below _ _) xg1.out
   obtain ⟨ua1, uc1, rfl⟩ := owns_formK xo1.out
   have HQ1 := hide (HP1.out.pushB hmk1.out H4_1.out (alloc_below _ _) xg1.out xo1.out (by simpa using xw1.out))
   obtain ⟨k2, hkn1⟩ : ∃ zz : BkD, zz = { k1 with bv := .slice ua1 (k1.bl.length + 1) uc1, bl := k1.bl ++ [(.slice va1 (j + 1) vc1)] } := ⟨_, rfl⟩
   have hL2 : Hid (k2.bl.length = K.bl.length + 2 ∧ k2.rl = K.rl ∧ k2.il = K.il) := by
    have := hL1.out
    rw [hkn1]
    exact ⟨by simp only [List.length_append, List.length_cons, List.length_nil]; omega, this.2.1, this.2.2⟩
   have hbv2 : Hid (k2.bv = .slice ua1 (k1.bl.length + 1) uc1) := by show _ = _; rw [hkn1]
   rw [← hkn1] at HQ1
   obtain ⟨y2, hy2⟩ : ∃ y, Hid (y = x1.setCell ⟨wb, 1, none⟩ (.slice ua1 (k1.bl.length + 1) uc1)) := ⟨_, rfl⟩
   have hsz2 : Hid (y2.heap.size = x1.heap.size) := by show _ = _; rw [hy2.out]; simp [World.setCell]
   have HP2 := HQ1
   rw [← hy2.out] at HP2
   clear hkn1 xo1 xg1 xw1 hmk1 HQ1 HP1
   have hw2 := HP2.out.pend.st.p.lt
   have hmk2 : Hid (markB k2.bl.length = [.int .u8 m]) := by show _ = _; have q1 := hL2.out.1; have q2 := h4; rw [← HK.out] at q2; rw [Hm.out, markB, ← HK.out, q1]; congr 5; try omega
   have hlen2 : k2.bl.length ≤ 1099511627776 + 2 := by have := hL2.out.1; rw [HK.out] at this; omega
   have H4_2 : Hid (k2.bl.length / 4 = k.bl.length / 4) := by show _ = _; have q1 := hL2.out.1; rw [HK.out] at q1; omega
   go_wp2_with (at_builtin; rw [← hy2.out]; refine wpList_append_src rfl (.tmp 64) (.tmp 66) 29 rfl 0 56 (.slice none 0 0) 1 24 Tryz.underlying29 Tryz.infoBs rfl (by omega) _ k2.bl.length k2.bl rfl ((own_cast hbv2.out HP2.out.pend.st.p.ok.bown).alloc _) _ 1 [(.slice va2 (j + 2) vc2)] rfl (.inr (.inl ⟨x1.heap.size, 0, 1, rfl, sized hsz2.out (row_new y2 _ [(.slice va2 (j + 2) vc2)])⟩)) rfl (by intro u hu; simp at hu; subst hu; rfl) (by omega) (by omega) (by omega) ?_)
   intro u2 x2 xo2 xg2 xw2
   rw [← hbv2.out] at xg2 xw2
   obtain ⟨f2, z2⟩ := HP2.out.pend.midB (alloc_below _ _) xg2.out
   obtain ⟨ua2, uc2, rfl⟩ := owns_formK xo2.out
   have HQ2 := hide (HP2.out.pushB hmk2.out H4_2.out (alloc_below _ _) xg2.out xo2.out (by simpa using xw2.out))
   obtain ⟨k3, hkn2⟩ : ∃ zz : BkD, zz = { k2 with bv := .slice ua2 (k2.bl.length + 1) uc2, bl := k2.bl ++ [(.slice va2 (j + 2) vc2)] } := ⟨_, rfl⟩
   have hL3 : Hid (k3.bl.length = K.bl.length + 3 ∧ k3.rl = K.rl ∧ k3.il = K.il) := by
    have := hL2.out
    rw [hkn2]
    exact ⟨by simp only [List.length_append, List.length_cons, List.length_nil]; omega, this.2.1, this.2.2⟩
   have hbv3 : Hid (k3.bv = .slice ua2 (k2.bl.length + 1) uc2) := by show _ = _; rw [hkn2]
   rw [← hkn2] at HQ2
   obtain ⟨y3, hy3⟩ : ∃ y, Hid (y = x2.setCell ⟨wb, 1, none⟩ (.slice ua2 (k2.bl.length + 1) uc2)) := ⟨_, rfl⟩
   have hsz3 : Hid (y3.heap.size = x2.heap.size) := by show _ = _; rw [hy3.out]; simp [World.setCell]
   have HP3 := HQ2
   rw [← hy3.out] at HP3
   clear hkn2 xo2 xg2 xw2 hmk2 HQ2 HP2
   have hw3 := HP3.out.pend.st.p.lt
   have hmk3 : Hid (markB k3.bl.length = [.int .u8 m]) := by show _ = _; have q1 := hL3.out.1; have q2 := h4; rw [← HK.out] at q2; rw [Hm.out, markB, ← HK.out, q1]; congr 5; try omega
   have hlen3 : k3.bl.length ≤ 1099511627776 + 3 := by have := hL3.out.1; rw [HK.out] at this; omega
   have H4_3 : Hid (k3.bl.length / 4 = k.bl.length / 4) := by show _ = _; have q1 := hL3.out.1; rw [HK.out] at q1; omega
   go_wp2_with (at_builtin; rw [← hy3.out]; refine wpList_append_src rfl (.tmp 74) (.tmp 76) 29 rfl 0 56 (.slice none 0 0) 1 24 Tryz.underlying29 Tryz.infoBs rfl (by omega) _ k3.bl.length k3.bl rfl ((own_cast hbv3.out HP3.out.pend.st.p.ok.bown).alloc _) _ 1 [(.slice va3 (j + 3) vc3)] rfl (.inr (.inl ⟨x2.heap.size, 0, 1, rfl, sized hsz3.out (row_new y3 _ [(.slice va3 (j + 3) vc3)])⟩)) rfl (by intro u hu; simp at hu; subst hu; rfl) (by omega) (by omega) (by omega) ?_)
   intro u3 x3 xo3 xg3 xw3
   rw [← hbv3.out] at xg3 xw3
   obtain ⟨f3, z3⟩ := HP3.out.pend.midB (alloc_below _ _) xg3.out
   obtain ⟨ua3, uc3, rfl⟩ := owns_formK xo3.out
   have HQ3 := hide (HP3.out.pushB hmk3.out H4_3.out (alloc_below _ _) xg3.out xo3.out (by simpa using xw3.out))
   obtain ⟨k4, hkn3⟩ : ∃ zz : BkD, zz = { k3 with bv := .slice ua3 (k3.bl.length + 1) uc3, bl := k3.bl ++ [(.slice va3 (j + 3) vc3)] } := ⟨_, rfl⟩
   have hL4 : Hid (k4.bl.length = K.bl.length + 4 ∧ k4.rl = K.rl ∧ k4.il = K.il) := by
    have := hL3.out
    rw [hkn3]
    exact ⟨by simp only [List.length_append, List.length_cons, List.length_nil]; omega, this.2.1, this.2.2⟩
   have hbv4 : Hid (k4.bv = .slice ua3 (k3.bl.length + 1) uc3) := by show _ = _; rw [hkn3]
   rw [← hkn3] at HQ3
   obtain ⟨y4, hy4⟩ : ∃ y, Hid (y = x3.setCell ⟨wb, 1, none⟩ (.slice ua3 (k3.bl.length + 1) uc3)) := ⟨_, rfl⟩
   have hsz4 : Hid (y4.heap.size = x3.heap.size) := by show _ = _; rw [hy4.out]; simp [World.setCell]
   have HP4 := HQ3
   rw [← hy4.out] at HP4
   clear hkn3 xo3 xg3 xw3 hmk3 HQ3 HP3
   go_wp2_with fail
   rw [← hy4.out]
   refine bodyPost_end (results_none rfl _ _ _) rfl ?_
   exact ⟨rfl, k4, HP4.out.pend.st.done, by rw [← HK.out]; exact hL4.out⟩
theorem saveF_byt {ents : Int} {nk : Nat} {draws : List Int} {s : KS} (hok : KOk ents nk draws s) (he : 1 ≤ ents ∧ ents ≤ 8) (hk : nk ≤ 8) (hd : draws.length ≤ 1000) (hs : Sorted s.q) : ∀ b ∈ saveF ents nk s, 0 ≤ b ∧ b < 256 := by
 intro b hb
 simp only [saveF, headF, List.mem_append] at hb
 rcases hb with (hb | hb) | hb
 ·simp at hb; omega
 ·exact bodyF_bytes hok he hk hd hs b hb
 ·exact sumB_bytes _ b hb
theorem saveF_short {ents : Int} {nk : Nat} {draws : List Int} {s : KS} (hok : KOk ents nk draws s) (he : 1 ≤ ents ∧ ents ≤ 8) : (saveF ents nk s).length ≤ 2000 := by
 have h1 := numB_len ents
 have h2 := numB_len (nk : Int)
 have h3 := numB_len s.clock
 have h4 := numB_len s.next
 have h5 := numB_len (s.taken : Int)
 have h6 := regB_len s (ents.toNat * 4)
 have h7 := numB_len (s.q.length : Int)
 have h8 := evB_len s.clock s.q
 have := hok.len
 rw [saveF_length]
 simp only [bodyF, List.length_append]
 omega
theorem conv_row {base : Nat} {w : World} {g n cap : Nat} {l : List Int} (h : BRow base w (.slice (some ⟨g, 0, none⟩) n cap) l) (hb : ∀ b ∈ l, 0 ≤ b ∧ b < 256) : (convert 56 9 (.slice (some ⟨g, 0, none⟩) n cap)).run Tryz.prog w = .ok (.string (strW l)) w := by
 obtain ⟨g', cap', e, _, _, hr⟩ := h.row
 rw [e]
 exact conv_win hr hb
theorem strSelf (l : List Int) : ((strW l).toList == (strW l).toList) = true := by simp
theorem asked_save {base : Nat} (wb : Nat) (lv : Value) (ps : List Pair) (k : BkD) (J : Nat) (i : Nat) (p : Pair) (a b c d ents : Int) (kv l rv qv sv : Value) (w : World) (h : Inv base w wb lv ps (bookOf k)) (hi : ps[i]? = some p) (hG : BkLen J k) (hJ : J ≤ 2000000) :
  Calls Tryz.prog 17 #[.pointer (some ⟨wb, 0, none⟩), .agg #[.pointer (some ⟨p.kb, 0, none⟩), .pointer (some ⟨p.rb, 0, none⟩)], .agg #[.int .i64 7, .int .i64 a, .int .i64 b, .int .i64 c, .int .i64 d, .int .i64 ents, kv, l, rv, qv, sv]] w
   fun e w' => e = .returned (.bool true) ∧ Only (AskS wb ps (bookOf k)) w w' ∧ ∃ ps' k', ps'.length = ps.length ∧ Inv base w' wb lv ps' (bookOf k') ∧ BkLen (J + 1) k' := by
 have hpm : p ∈ ps := List.mem_of_getElem? hi
 have hOK := h.pairs p hpm
 obtain ⟨⟨he1, he8⟩, hk1, hk8⟩ := kind_facts hOK.kind
 have hdl := draws_facts hOK.draw
 have hsz := h.lo
 have hwl := h.wlt
 obtain ⟨W, hW⟩ : ∃ W, W = (w.alloc (.cells #[.pointer (some ⟨p.kb, 0, none⟩), .pointer (some ⟨p.rb, 0, none⟩)] 52)).alloc (.cells #[.int .i64 7, .int .i64 a, .int .i64 b, .int .i64 c, .int .i64 d, .int .i64 ents, kv, l, rv, qv, sv] 41) := ⟨_, rfl⟩
 have hb : Below w.heap.size w W := by rw [hW]; exact ((Below.refl _ _).alloc (Nat.le_refl _) _).alloc (by simp) _
 have hWs : W.heap.size = w.heap.size + 1 + 1 := by rw [hW]; simp
 have c1 : W.cell? ⟨w.heap.size, 1, none⟩ = some (.pointer (some ⟨p.rb, 0, none⟩)) := by rw [hW]; simp [go_sem]
 have HI := hide (h.below hb)
 have HO := hide (HI.out.pairs p hpm)
 have HB := hide hb
 have HG := hide hG
 have g3 := hG.bl
 have hby := saveF_byt hOK.fit.ok ⟨he1, he8⟩ hk8 hdl hOK.fit.q.sorted
 have HSv := hide (save_any p.kb p.qb p.mb p.ov p.ents p.ks p.draws p.s W HO.out.ker HO.out.fit.ok hk8 ⟨he1, he8⟩ hdl HO.out.fit.q.sorted)
 have HSr : Hid (∀ w2 : World, Below W.heap.size W w2 → Calls Tryz.prog 53 #[.pointer (some ⟨p.rb, 0, none⟩)] w2 fun e w' => e = .returned (.string (strW (saveF p.ents p.ks.length p.s))) ∧ Below w2.heap.size w2 w') := by
  intro w2 hb2
  exact rsave_any p.rb p.ents p.ks p.draws p.s w2 (HO.out.ref.only (Only.new (S := fun _ => False) hb2) (by simp) (by simp)) HO.out.fit.ok hk8 ⟨he1, he8⟩ hdl HO.out.fit.q.sorted
 have hlen6 : (saveF p.ents p.ks.length p.s).length ≤ 1000000 := by
  have := saveF_short hOK.fit.ok ⟨he1, he8⟩
  omega
 generalize hX : saveF p.ents p.ks.length p.s = X at HSv HSr hby hlen6
 have Hby := hide hby
 have Hl6 := hide hlen6
 clear hOK hb hG hby hX hlen6
 go_enter Tryz.func17, Tryz.ntmps17
 go_wp2_with fail
 rw [← hW]
 refine HSv.out.mono ?_
 rintro e w2 ⟨v, rfl, hb2, hrow⟩
 have hz2 := hb2.size
 have x1 := below_at hb2 c1 (by omega)
 obtain ⟨g, cap, rfl⟩ := hrow.form
 have Hrow := hide hrow
 have HB2 := hide hb2
 have HR2 := hide (HSr.out w2 hb2)
 clear hrow c1 HSv HSr
 go_wp2_with fail
 refine HR2.out.mono ?_
 rintro e w3 ⟨rfl, hb3⟩
 have hz3 := hb3.size
 have hrow3 : BRow W.heap.size w3 (.slice (some ⟨g, 0, none⟩) X.length cap) X := Hrow.out.keep (Only.new (S := fun _ => False) hb3) (by simp)
 have hcv := conv_row hrow3 Hby.out
 have hs1 := strSelf X
 have hglt := Hrow.out.lt g rfl
 have hB3 : Below w.heap.size w w3 := HB.out.trans ((HB2.out.mono (by omega)).trans (hb3.mono (by omega)))
 have HB3 := hide hB3
 have HI3 := hide (h.below hB3)
 have HKb := hide (keepsBytes_any wb k (some ⟨g, 0, none⟩) X.length cap X w3 HI3.out.bkp (.inr hrow3) rfl (by omega) Hl6.out HG.out.b4 (by omega) (fun b hb => by
  have e : b = g := by simpa [Value.ownBlock] using hb
  rw [e]
  exact ⟨fun hc => by have := h.bkp.ok.lt g hc; omega, by omega⟩))
 clear hrow3 hB3 HR2
 go_wp2_with fail
 refine HKb.out.mono ?_
 rintro e w4 ⟨rfl, k', hst, q1, q2, q3⟩
 have hI4 := HI3.out.bookStep hst (fun b hb => by
  have e : b = g := by simpa [Value.ownBlock] using hb
  rw [e]
  refine ⟨by omega, by omega, by omega, fun hc => ?_, fun q hq hc => ?_⟩
  ·have := (h.owns.lt g hc.symm).2; omega
  ·have := (h.pairs q hq).lt g hc; omega)
 have HI4 := hide hI4
 have HBB : Hid (Only (AskS wb ps (bookOf k)) w w4) := by
  refine (Only.new HB3.out).chain hst.only ?_
  rintro b hb (hc | hc | hc)
  ·exact .inr (.inl hc)
  ·exact .inr (.inr hc)
  ·have e : b = g := by simpa [Value.ownBlock] using hc
   omega
 have HLen : Hid (BkLen (J + 1) k') := ⟨by rw [q3]; have := HG.out.il; omega, by rw [q3]; exact HG.out.i4, by rw [q2]; have := HG.out.rl; omega, by rw [q2]; exact HG.out.r4, by omega, by have := HG.out.b4; omega⟩
 clear hI4 hst q1 q2 q3 HKb
 go_wp2
 go_ret
 exact ⟨by simp, HBB.out, _, k', rfl, HI4.out, HLen.out⟩
theorem res_save {ents : Int} {ks : List (List Ins)} {draws : List Int} {s : KS} (hk : kindF ents ks = none) (hD : drawsF draws = true) (hf : Fit ents ks draws s) (hz : RegZ ents s) : resE ents ks draws (saveF ents ks.length s) = 0 ∧ resS ents ks draws (saveF ents ks.length s) = s := by
 obtain ⟨E, rfl, he, hk1, hk8⟩ := kind_bounds hk
 have hb := kerRF_body E ks draws s hk8 hf hz he (draws_facts hD)
 have ho : openL (saveF (E : Int) ks.length s) = bodyF (E : Int) ks.length s := openL_ok [84, 77, 80, 1] _ rfl
 have hE : openE [84, 77, 80, 1] (saveF (E : Int) ks.length s) = 0 := openE_ok [84, 77, 80, 1] _ rfl
 constructor
 ·simp [resE, hk, hD, loadE, hE, kerOk, ho, hb]
 ·simp [resS, ho, hb]
theorem Inv.oneF {base : Nat} {w w2 : World} {wb : Nat} {lv lv2 : Value} {ps : List Pair} {bk : BookD} {p : Pair} (h : Inv base w wb lv ps bk) (hp : PairOK w p) (hm : ∀ b, p.own b → base ≤ b ∧ b ≠ wb ∧ some b ≠ lv.ownBlock ∧ ¬ bk.bs b ∧ ∀ q ∈ ps, ¬ q.own b)
  (W : World) (hW : Below w.heap.size w W) (hg : W.grownBy w2 lv.ownBlock) (hown : w2.ownsRow base 52 2 lv2 (ps.length + 1) (pairsRow ps ++ pairCells p)) (hwh : lv2.ownBlock = lv.ownBlock ∨ lv2.ownBlock = some W.heap.size) :
  Inv base (w2.setCell ⟨wb, 0, none⟩ lv2) wb lv2 (ps ++ [p]) bk := by
 have hz1 := hW.size
 have hz2 := hg.size
 have hwb := h.wlt
 have hblo := h.blo
 have hlt : ∀ b, lv.ownBlock = some b → b < w.heap.size := fun b hb => (h.owns.lt b hb).2
 have ho : Only (fun b => some b = lv.ownBlock) w w2 := (Only.new hW).trans ⟨hg.os, hg.tape, hg.output, hg.size, fun k hk hn => hg.block k hk hn⟩
 have hs : Only (· = wb) w2 (w2.setCell ⟨wb, 0, none⟩ lv2) := Only.setCell (S := (· = wb)) (Only.refl _ _) rfl _
 have hsz : (w2.setCell ⟨wb, 0, none⟩ lv2).heap.size = w2.heap.size := by simp [World.setCell]
 have hwl : ¬ some wb = lv.ownBlock := fun e => h.lne e.symm
 have hw2 : ∀ b, b < w.heap.size → some b ≠ lv.ownBlock → some b ≠ lv2.ownBlock := by
  intro b hb1 hb2
  rcases hwh with e | e <;> rw [e]
  ·exact hb2
  ·intro e'; have := Option.some.inj e'; omega
 have hcell : ∀ i v, i ≠ 0 → w.cell? ⟨wb, i, none⟩ = some v → (w2.setCell ⟨wb, 0, none⟩ lv2).cell? ⟨wb, i, none⟩ = some v := by
  intro i v hi hv
  rw [World.cell?_setCell_other _ _ _ _ (by simp; try omega)]; exact ho.at hv hwl
 have hroom : Room w2 wb 4 := h.room.only ho hwl
 refine ⟨World.cell?_setCell_same' _ _ _ (hroom 0 (by omega)).1, ⟨hcell 1 _ (by omega) h.book.1, hcell 2 _ (by omega) h.book.2.1, hcell 3 _ (by omega) h.book.2.2⟩, hroom.setCell _ _, ?_, fun e => hw2 wb hwb hwl e.symm, h.blo, ?_, ?_, ?_, ?_, ?_, h.bst⟩
 ·rw [List.length_append, show pairsRow (ps ++ [p]) = pairsRow ps ++ pairCells p by simp [pairsRow]]
  obtain ⟨h1, h2⟩ := hown
  refine ⟨h1, ?_⟩
  rcases h2 with h2 | ⟨g, cap, cur, hv, hg', hh, r⟩
  ·exact .inl h2
  ·refine .inr ⟨g, cap, cur, hv, hg', ?_, r⟩
   rw [Below.heap_setCell _ _ _ _ ?_]; exact hh
   have := hw2 wb hwb hwl
   rw [hv] at this
   simp [Value.ownBlock] at this
   exact Ne.symm this
 ·intro x hx
  rcases List.mem_append.1 hx with h1 | h1
  ·exact ((h.pairs x h1).only ho (fun b hb => (h.muts x h1 b hb).2.2.1)).only hs (fun b hb => (h.muts x h1 b hb).2.1)
  ·simp at h1; subst h1
   exact (hp.only ho (fun b hb => (hm b hb).2.2.1)).only hs (fun b hb => (hm b hb).2.1)
 ·intro x hx b hb
  rcases List.mem_append.1 hx with h1 | h1
  ·have := h.muts x h1 b hb
   exact ⟨this.1, this.2.1, hw2 b ((h.pairs x h1).lt b hb) this.2.2.1, this.2.2.2⟩
  ·simp at h1; subst h1
   obtain ⟨m1, m2, m3, m4, _⟩ := hm b hb
   exact ⟨m1, m2, hw2 b (hp.lt b hb) m3, m4⟩
 ·intro i j x y b hi hj hx hy
  have look : ∀ (i : Nat) s, (ps ++ [p])[i]? = some s → (i < ps.length ∧ ps[i]? = some s) ∨ (i = ps.length ∧ s = p) := by
   intro i s hs
   by_cases hi : i < ps.length
   ·rw [List.getElem?_append_left hi] at hs; exact .inl ⟨hi, hs⟩
   ·rw [List.getElem?_append_right (by omega)] at hs
    have : i - ps.length = 0 := by
     have := (List.getElem?_eq_some_iff.1 hs).1
     simp at this; omega
    rw [this] at hs
    simp at hs
    exact .inr ⟨by omega, hs.symm⟩
  rcases look i x hi with ⟨i1, i2⟩ | ⟨i1, rfl⟩ <;> rcases look j y hj with ⟨j1, j2⟩ | ⟨j1, rfl⟩
  ·exact h.apart i j x y b i2 j2 hx hy
  ·exact absurd hx ((hm b hy).2.2.2.2 x (List.mem_of_getElem? i2))
  ·exact absurd hy ((hm b hx).2.2.2.2 y (List.mem_of_getElem? j2))
  ·omega
 ·intro b hb
  rw [hsz]
  have := h.bks b hb
  exact ⟨this.1, by omega, this.2.2.1, hw2 b this.2.1 this.2.2.2⟩
 ·refine h.bst _ _ (· = wb) (h.bst _ _ _ h.bok ho (fun b hb => (h.bks b hb).2.2.2)) hs (fun b hb => (h.bks b hb).2.2.1)
theorem one_far {base : Nat} (wb : Nat) (lv : Value) (ps : List Pair) (p : Pair) (bk : BookD) (w : World) (h : Inv base w wb lv ps bk)
  (hp : PairOK w p) (hm : ∀ b, p.own b → base ≤ b ∧ b ≠ wb ∧ some b ≠ lv.ownBlock ∧ ¬ bk.bs b ∧ ∀ q ∈ ps, ¬ q.own b) (hlen : (ps.length + 1) * 16 ≤ 140737488355328) (hbase : base ≤ w.heap.size) :
  Calls Tryz.prog 29 #[.pointer (some ⟨wb, 0, none⟩), .pointer (some ⟨p.kb, 0, none⟩), .pointer (some ⟨p.rb, 0, none⟩)] w fun e w' => e = .returned (.bool true) ∧ Below base w w' ∧ Only (fun b => b = wb ∨ some b = lv.ownBlock) w w' ∧ ∃ lv', Inv base w' wb lv' (ps ++ [p]) bk := by
 have hw0 := h.wlt
 have hc0 := h.cell
 have hown := h.owns
 have Hown := hide hown
 clear hown
 obtain ⟨la, lc, rfl⟩ := owns_form h.owns
 have hf0 := (h.room 0 (by omega)).2
 go_enter Tryz.func29, Tryz.ntmps29
 go_wp2_with (at_builtin; refine wpList_append_src rfl (.tmp 18) (.tmp 22) 28 rfl base 52 (.agg #[.pointer none, .pointer none]) 2 16 Tryz.underlying28 Tryz.info52 rfl (by omega) _ ps.length (pairsRow ps) rfl (Hown.out.alloc _) _ 1 (pairCells p) rfl (.inr (.inl ⟨w.heap.size, 0, _, rfl, ?_⟩)) rfl (by simp [pairCells, Value.oneCell']) (by omega) (by omega) (by simp; omega) ?_)
 ·intro j u hu
  have hj : j < 2 := by have := (List.getElem?_eq_some_iff.1 hu).1; simpa [pairCells] using this
  have : j = 0 ∨ j = 1 := by omega
  rcases this with rfl | rfl <;> simp [pairCells] at hu <;> subst hu <;> simp [go_sem]
 intro v2 w2 hown2 hgr2 hwh2
 obtain ⟨sa2, sc2, rfl⟩ := owns_form hown2.out
 have hW := (Below.refl w.heap.size w).alloc (Nat.le_refl _) (.cells #[.pointer (some ⟨p.kb, 0, none⟩), .pointer (some ⟨p.rb, 0, none⟩)] 52)
 have hI := h.oneF hp hm _ hW hgr2.out hown2.out (by simpa using hwh2.out)
 have ho2 := (only_grown hgr2.out)
 have hwl : ¬ some wb = (Value.slice la ps.length lc).ownBlock := fun e => h.lne e.symm
 have hc2 : w2.cell? ⟨wb, 0, none⟩ = some (.slice la ps.length lc) := ho2.at (below_at hW hc0 (by omega)) hwl
 have hf2 : w2.frozen? ⟨wb, 0, none⟩ = false := by
  rw [World.frozen?_of_block (w := w.alloc (.cells #[.pointer (some ⟨p.kb, 0, none⟩), .pointer (some ⟨p.rb, 0, none⟩)] 52)) (a := ⟨wb, 0, none⟩) (ho2.block wb (by simp; omega) hwl)]
  exact (hW.frozen (p := ⟨wb, 0, none⟩) (by show wb < _; omega)).trans hf0
 have hbb : Below base w w2 := (hW.mono (by omega)).grown hgr2.out (by simp; omega) (fun b hb => (h.owns.lt b hb).1)
 have HI := hide hI
 have hblo := h.blo
 have HO : Hid (Only (fun b => b = wb ∨ some b = (Value.slice la ps.length lc).ownBlock) w w2) := (Only.new hW).trans (ho2.mono (fun b _ hb => .inr hb))
 clear hI hc0 hf0
 go_wp2
 go_ret
 exact ⟨rfl, hbb.setCell (by exact hblo) _, HO.out.setCell (.inl rfl) _, _, HI.out⟩
end Go.Proofs.YtndlmgocldckfaaGreat
