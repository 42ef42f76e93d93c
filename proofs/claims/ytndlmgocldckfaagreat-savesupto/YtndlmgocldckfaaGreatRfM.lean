import Derived.Test.YtndlmgocldckfaaGreatRfL
import Derived.Test.YtndlmgocldckfaaGreatG04
namespace Go.Proofs.YtndlmgocldckfaaGreat
open Go.RowKit
set_option linter.unusedVariables false
set_option linter.unusedSimpArgs false
set_option maxRecDepth 100000
set_option maxHeartbeats 4000000
def putK (w : World) (rb : Nat) (v3 v4 v5 v6 v7 : Value) : World := ((((w.setCell ⟨rb, 3, none⟩ v3).setCell ⟨rb, 4, none⟩ v4).setCell ⟨rb, 5, none⟩ v5).setCell ⟨rb, 6, none⟩ v6).setCell ⟨rb, 7, none⟩ v7
theorem only_putK (w : World) (rb : Nat) (v3 v4 v5 v6 v7 : Value) : Only (· = rb) w (putK w rb v3 v4 v5 v6 v7) := (((((Only.refl _ _).setCell (S := (· = rb)) (p := ⟨rb, 3, none⟩) rfl _).setCell (p := ⟨rb, 4, none⟩) rfl _).setCell (p := ⟨rb, 5, none⟩) rfl _).setCell (p := ⟨rb, 6, none⟩) rfl _).setCell (p := ⟨rb, 7, none⟩) rfl _
theorem putK_other {w : World} {rb : Nat} {v3 v4 v5 v6 v7 : Value} {o : Nat} {v : Value} (ho : o < 3) (h : w.cell? ⟨rb, o, none⟩ = some v) : (putK w rb v3 v4 v5 v6 v7).cell? ⟨rb, o, none⟩ = some v := by
 unfold putK
 rw [World.cell?_setCell_other _ _ _ _ (by simp <;> omega), World.cell?_setCell_other _ _ _ _ (by simp <;> omega), World.cell?_setCell_other _ _ _ _ (by simp <;> omega), World.cell?_setCell_other _ _ _ _ (by simp <;> omega), World.cell?_setCell_other _ _ _ _ (by simp <;> omega)]
 exact h
theorem putK_at {w : World} {rb : Nat} (h : Room w rb 8) (v3 v4 v5 v6 v7 : Value) : (putK w rb v3 v4 v5 v6 v7).cell? ⟨rb, 3, none⟩ = some v3 ∧ (putK w rb v3 v4 v5 v6 v7).cell? ⟨rb, 4, none⟩ = some v4 ∧ (putK w rb v3 v4 v5 v6 v7).cell? ⟨rb, 5, none⟩ = some v5 ∧ (putK w rb v3 v4 v5 v6 v7).cell? ⟨rb, 6, none⟩ = some v6 ∧ (putK w rb v3 v4 v5 v6 v7).cell? ⟨rb, 7, none⟩ = some v7 := by
 unfold putK
 refine ⟨?_, ?_, ?_, ?_, ?_⟩
 ·rw [World.cell?_setCell_other _ _ _ _ (by simp), World.cell?_setCell_other _ _ _ _ (by simp), World.cell?_setCell_other _ _ _ _ (by simp), World.cell?_setCell_other _ _ _ _ (by simp)]
  exact World.cell?_setCell_same' _ _ _ (h 3 (by omega)).1
 ·rw [World.cell?_setCell_other _ _ _ _ (by simp), World.cell?_setCell_other _ _ _ _ (by simp), World.cell?_setCell_other _ _ _ _ (by simp)]
  exact World.cell?_setCell_same' _ _ _ ((h.setCell _ _) 4 (by omega)).1
 ·rw [World.cell?_setCell_other _ _ _ _ (by simp), World.cell?_setCell_other _ _ _ _ (by simp)]
  exact World.cell?_setCell_same' _ _ _ (((h.setCell _ _).setCell _ _) 5 (by omega)).1
 ·rw [World.cell?_setCell_other _ _ _ _ (by simp)]
  exact World.cell?_setCell_same' _ _ _ ((((h.setCell _ _).setCell _ _).setCell _ _) 6 (by omega)).1
 ·exact World.cell?_setCell_same' _ _ _ (((((h.setCell _ _).setCell _ _).setCell _ _).setCell _ _) 7 (by omega)).1
theorem RefK.take {R' R'' : Nat → Prop} {w : World} {rb cb gb : Nat} {ents : Int} {ks : List (List Ins)} {draws : List Int} {tk ck nx : Int} {rg : List Int} {q : List Ev} {st : KS} (h : RefK R' w rb ents ks draws tk ck nx rg q) (hc : RefC R'' w cb gb ents ks draws st) (he : 0 ≤ ents ∧ ents ≤ 8)
  (hR' : ∀ b, R' b → b ≠ rb) (hR'' : ∀ b, R'' b → b ≠ rb) (hg : gb ≠ rb) {cap : Nat} {qv : Value} (h7 : w.cell? ⟨cb, 7, none⟩ = some qv) (hcap : (ents * 4).toNat ≤ cap) :
  RefK (fun b => R' b ∨ R'' b ∨ b = gb) (putK w rb (.int .i64 st.taken) (.int .i64 st.clock) (.int .i64 st.next) (.slice (some ⟨gb, 0, none⟩) (ents * 4).toNat cap) qv) rb ents ks draws st.taken st.clock st.next (regL ents st) st.q := by
 obtain ⟨⟨kv, dv, rv, qv', h0, h1, h2, h3, h4, h5, h6, h7', hk, hd, hr, hq⟩, hroom⟩ := h
 have ho := only_putK w rb (.int .i64 st.taken) (.int .i64 st.clock) (.int .i64 st.next) (.slice (some ⟨gb, 0, none⟩) (ents * 4).toNat cap) qv
 obtain ⟨c3, c4, c5, c6, c7⟩ := putK_at hroom (.int .i64 st.taken) (.int .i64 st.clock) (.int .i64 st.next) (.slice (some ⟨gb, 0, none⟩) (ents * 4).toNat cap) qv
 obtain ⟨qv2, q1, q2⟩ := hc.que
 have e : qv2 = qv := by rw [h7] at q1; exact (Option.some.inj q1).symm
 subst e
 refine ⟨⟨kv, dv, _, qv2, putK_other (by omega) h0, putK_other (by omega) h1, putK_other (by omega) h2, c3, c4, c5, c6, c7, (hk.only ho hR').mono (fun b hb => .inl hb), (hd.only ho hR').mono (fun b hb => .inl hb), ⟨by rw [regL_length]; omega, .inr ⟨gb, 0, cap, by rw [regL_length], .inr (.inr rfl), ?_⟩⟩, (q2.only ho hR'').mono (fun b hb => .inr (.inl hb))⟩, (((((hroom.setCell _ _).setCell _ _).setCell _ _).setCell _ _).setCell _ _)⟩
 intro j v hv
 have hj : j < (ents * 4).toNat := by have := (List.getElem?_eq_some_iff.1 hv).1; simpa [ints, regL] using this
 simp [ints, regL, hj] at hv
 subst hv
 rw [Nat.zero_add]
 exact ho.at (hc.regs j hj) hg
structure RrI (R : Nat → Prop) (w wr : World) (rb : Nat) (ents : Int) (ks : List (List Ins)) (draws : List Int) (horizon : Int) (n k : Nat) (RES : KS × List Rec × Int) (av : Value) (st : KS) (L : List RecC) (rs : List Rec) (R' : Nat → Prop) : Prop where
 only : Only (· = rb) w wr
 ref : RefK R' wr rb ents ks draws st.taken st.clock st.next (regL ents st) st.q
 sub : ∀ b, R' b → R b ∨ w.heap.size ≤ b
 lt : ∀ b, R' b → b < wr.heap.size ∧ b ≠ rb
 all : AllR wr w.heap.size av L rs
 nap : ∀ b, some b = av.ownBlock → ¬ R' b
 fit : Fit ents ks draws st
 res : RES = ((runF ks draws horizon (n - k) st).1, rs ++ (runF ks draws horizon (n - k) st).2.1, (runF ks draws horizon (n - k) st).2.2)
 len : rs.length = k
theorem rrun_arg (rb : Nat) (steps horizon : Int) (w : World) (hs : ¬ (0 ≤ steps ∧ steps ≤ 1000)) :
  Calls Tryz.prog 47 #[.pointer (some ⟨rb, 0, none⟩), .int .i64 steps, .int .i64 horizon] w fun e w' => e = .returned (.tuple #[.slice none 0 0, .int .i64 0, .int .i64 1]) ∧ w' = w := by
 have hb : inB steps 0 1000 = false := by simp only [inB, Bool.and_eq_false_iff, decide_eq_false_iff_not]; omega
 go_enter Tryz.func47, Tryz.ntmps47
 go_wp2_with (go_at_call 57; refine (in_any _ _ _ _).mono ?_; rintro e w1 ⟨rfl, rfl⟩; rw [hb])
 go_ret3
 exact ⟨rfl, rfl⟩
theorem rrun_any {R : Nat → Prop} (rb : Nat) (ents : Int) (ks : List (List Ins)) (draws : List Int) (s : KS) (n : Nat) (horizon : Int) (w : World) (h : RefK R w rb ents ks draws s.taken s.clock s.next (regL ents s) s.q) (hR : ∀ b, R b → b < w.heap.size ∧ b ≠ rb) (hfit : Fit ents ks draws s) (he : 1 ≤ ents ∧ ents ≤ 8) (hk8 : ks.length ≤ 8) (hn : n ≤ 1000)
  (hcode : CodesOk ents ks) (hdl : draws.length ≤ 1000) (hd : DrawsOk draws) (RES : KS × List Rec × Int) (hRES : RES = runF ks draws horizon n s) :
  Calls Tryz.prog 47 #[.pointer (some ⟨rb, 0, none⟩), .int .i64 n, .int .i64 horizon] w fun e w' => ∃ av L R', e = .returned (.tuple #[av, .int .i64 RES.2.2, .int .i64 0]) ∧ Only (· = rb) w w' ∧ RefK R' w' rb ents ks draws RES.1.taken RES.1.clock RES.1.next (regL ents RES.1) RES.1.q ∧ (∀ b, R' b → R b ∨ w.heap.size ≤ b) ∧ (∀ b, R' b → b < w'.heap.size ∧ b ≠ rb) ∧ AllR w' w.heap.size av L RES.2.1 := by
 have hb : inB (n : Int) 0 1000 = true := by simp [inB]; omega
 have hrl : rb < w.heap.size := by obtain ⟨⟨_, _, _, _, h0, _⟩, _⟩ := h; exact lt_of_cell h0
 have HS : Hid (RrI R w w rb ents ks draws horizon n 0 RES (.slice none 0 0) s [] [] R) :=
  ⟨Only.refl _ _, h, fun b hb => .inl hb, hR, AllR.nil _ _, by simp [Value.ownBlock], hfit, by rw [hRES]; simp, rfl⟩
 have HR := hide hR
 have Hcode := hide hcode
 have Hd := hide hd
 clear h hfit hRES hcode hd hR
 go_enter Tryz.func47, Tryz.ntmps47
 go_wp2_with (go_at_call 57; refine (in_any _ _ _ _).mono ?_; rintro e w1 ⟨rfl, hw1⟩; rw [hb])
 clear hw1
 go_loopw [10, 11] (fun av i wr => ∃ (k : Nat) (st : KS) (L : List RecC) (rs : List Rec) (R' : Nat → Prop), k ≤ n ∧ i = .int .i64 k ∧ RrI R w wr rb ents ks draws horizon n k RES av st L rs R') (fun _ i _ => n - (intOf i).toNat)
 case atStart => exact ⟨0, s, [], [], R, Nat.zero_le _, rfl, HS.out⟩
 case round =>
  obtain ⟨k, st, L, rs, R', hk, rfl, hI⟩ := hrel
  have HI := hide hI
  clear hI HS
  obtain ⟨va, vc, rfl⟩ := owns_formA HI.out.all.row
  have hzr := HI.out.only.size
  by_cases hlt : k < n
  ·have d1 : decide ((k : Int) < (n : Int)) = true := by simp; omega
   obtain ⟨m, hm⟩ : ∃ m, n - k = m + 1 := ⟨n - k - 1, by omega⟩
   obtain ⟨⟨kv, dv, rv, qv, h0, h1, h2, h3, h4, h5, h6, h7, hkk, hdd, hrr, hqq⟩, hroom⟩ := HI.out.ref
   obtain ⟨qa, qc, rfl⟩ := hqq.form
   rcases hq : st.q with _ | ⟨e, l⟩
   ·have hF : RES = (st, rs, 1) := by
     rw [HI.out.res, hm]
     simp [runF, stepF, hq]
    have HF := hide hF
    have hql : st.q.length = 0 := by rw [hq]; rfl
    rw [hql] at h7
    clear hF h0 h1 h2 h3 h4 h5 h6 hkk hdd hrr hqq hroom hq hm
    go_wp2_with fail
    go_ret3
    rw [HF.out]
    exact ⟨_, L, R', rfl, HI.out.only, HI.out.ref, HI.out.sub, HI.out.lt, HI.out.all⟩
   ·have hql : st.q.length = l.length + 1 := by rw [hq]; rfl
    rw [hql] at h7
    obtain ⟨qb, qo, rfl, m0⟩ : ∃ qb qo, qa = some ⟨qb, qo, none⟩ ∧ wr.cell? ⟨qb, qo, none⟩ = some (.int .i64 e.time) := by
     rw [hq] at hqq
     obtain ⟨_, hx⟩ | ⟨b, off, cap, hx, _, _, _, hc⟩ := hqq
     ·simp at hx
     ·simp at hx
      have := (hc 0 (evIns e) (by simp)).1
      exact ⟨b, off, hx.1, by simpa [evIns] using this⟩
    have n0 : (((l.length + 1 : Nat) : Int) == 0) = false := by simp; omega
    have i1 : (0 : Int) < ((l.length + 1 : Nat) : Int) := by omega
    clear h0 h1 h2 h3 h4 h5 h6 hkk hdd hrr hqq hroom
    by_cases hz : horizon < e.time
    ·have hF : RES = (st, rs, 2) := by
      rw [HI.out.res, hm]
      simp [runF, stepF, hq, hz]
     have HF := hide hF
     have dz : decide (horizon < e.time) = true := by simpa using hz
     clear hF hq hm hql
     go_wp2_with fail
     go_ret3
     rw [HF.out]
     exact ⟨_, L, R', rfl, HI.out.only, HI.out.ref, HI.out.sub, HI.out.lt, HI.out.all⟩
    ·have dz : decide (horizon < e.time) = false := by simpa using hz
     have Hz := hide hz
     clear hz
     have hD : Distinct (e :: l) := hq ▸ HI.out.fit.q.dist
     have hS : Sorted (e :: l) := hq ▸ HI.out.fit.q.sorted
     have HC := hide (copied_any rb ents ks draws st wr HI.out.ref he (fun b hb => (HI.out.lt b hb).1) HI.out.fit.ok.len)
     have Hq : Hid (st.q = e :: l ∧ outF e.number st.q = l ∧ (∀ x ∈ st.q, e.time ≤ x.time)) := by
      refine ⟨hq, by rw [hq]; exact outF_head hD, ?_⟩
      intro x hx
      rw [hq] at hx
      rcases List.mem_cons.1 hx with rfl | hx
      ·exact Int.le_refl _
      ·have := (sorted_head hS hD x hx).2; omega
     have Hm := hide hm
     clear hq hm hql hD hS
     go_wp2_with fail
     refine HC.out.mono ?_
     rintro e1 wc ⟨cb, gb, rfl, hbc, hc1, hc2, hg1, hg2, hRC⟩
     have HRC := hide hRC
     have HBC := hide hbc
     have hzc := hbc.size
     have HSt := hide (rstep_any cb gb ents ks draws st e l wc hRC Hq.out.1 Hq.out.2.1 HI.out.fit.ok Hq.out.2.2 he hk8 Hcode.out hdl Hd.out)
     clear hRC hbc HC
     go_wp2_with fail
     refine HSt.out.mono ?_
     obtain ⟨st', told, why, hh⟩ : ∃ st' told why, happenF ks draws e st = (st', told, why) := ⟨_, _, _, rfl⟩
     rw [hh]
     have Hh := hide hh
     clear hh HSt
     rintro e2 ws ⟨hos, ⟨hw0, ta, tc, R2, rfl, hrc2, hR2, hown2, hnap2⟩ | ⟨hw0, rfl⟩⟩
     ·simp only at hw0
      subst hw0
      simp only at hrc2 hown2 hnap2
      have hzs := hos.size
      have hrm : Room ws rb 8 := by
       obtain ⟨_, hroom⟩ := HI.out.ref
       exact (hroom.below HBC.out (by omega)).only hos (by simp; omega)
      have HRef : Hid (RefK R' ws rb ents ks draws st.taken st.clock st.next (regL ents st) st.q) := (HI.out.ref.only (Only.new (S := fun _ => False) HBC.out) (by simp) (by simp)).only hos (fun b hb => by have := (HI.out.lt b hb).1; simp; omega) (by simp; omega)
      have HAll : Hid (AllR ws w.heap.size (.slice va L.length vc) L rs) := (HI.out.all.only (Only.new (S := fun _ => False) HBC.out) (by simp)).only hos (fun b hb => by have := (HI.out.all.lt b hb).2; simp; omega)
      obtain ⟨cap, c6, hcap, _⟩ := hrc2.c6
      obtain ⟨qv2, c7, hqe⟩ := hrc2.que
      obtain ⟨qa2, qc2, rfl⟩ := hqe.form
      have c3 := hrc2.c3
      have c4 := hrc2.c4
      have c5 := hrc2.c5
      obtain ⟨x3, y3⟩ : ∃ u, ws.cell? ⟨rb, 3, none⟩ = some u ∧ ws.frozen? ⟨rb, 3, none⟩ = false := by obtain ⟨u, hu⟩ := Option.isSome_iff_exists.1 (hrm 3 (by omega)).1; exact ⟨u, hu, (hrm 3 (by omega)).2⟩
      obtain ⟨x4, y4⟩ : ∃ u, ws.cell? ⟨rb, 4, none⟩ = some u ∧ ws.frozen? ⟨rb, 4, none⟩ = false := by obtain ⟨u, hu⟩ := Option.isSome_iff_exists.1 (hrm 4 (by omega)).1; exact ⟨u, hu, (hrm 4 (by omega)).2⟩
      obtain ⟨x5, y5⟩ : ∃ u, ws.cell? ⟨rb, 5, none⟩ = some u ∧ ws.frozen? ⟨rb, 5, none⟩ = false := by obtain ⟨u, hu⟩ := Option.isSome_iff_exists.1 (hrm 5 (by omega)).1; exact ⟨u, hu, (hrm 5 (by omega)).2⟩
      obtain ⟨x6, y6⟩ : ∃ u, ws.cell? ⟨rb, 6, none⟩ = some u ∧ ws.frozen? ⟨rb, 6, none⟩ = false := by obtain ⟨u, hu⟩ := Option.isSome_iff_exists.1 (hrm 6 (by omega)).1; exact ⟨u, hu, (hrm 6 (by omega)).2⟩
      obtain ⟨x7, y7⟩ : ∃ u, ws.cell? ⟨rb, 7, none⟩ = some u ∧ ws.frozen? ⟨rb, 7, none⟩ = false := by obtain ⟨u, hu⟩ := Option.isSome_iff_exists.1 (hrm 7 (by omega)).1; exact ⟨u, hu, (hrm 7 (by omega)).2⟩
      have Hrc2 := hide hrc2
      have HR2 := hide hR2
      have Hown2 := hide hown2
      have Hnap2 := hide hnap2
      have HOs := hide hos
      have hne : cb ≠ rb := by omega
      have hcl2 : cb < ws.heap.size := by omega
      have hrl2 : rb < ws.heap.size := by omega
      clear hrc2 hR2 hown2 hnap2 hos hrm hqe
      unfold recV
      obtain ⟨WS, hWS⟩ : ∃ WS, WS = putK ws rb (.int .i64 st'.taken) (.int .i64 st'.clock) (.int .i64 st'.next) (.slice (some ⟨gb, 0, none⟩) (ents * 4).toNat cap) (.slice qa2 st'.q.length qc2) := ⟨_, rfl⟩
      obtain ⟨WP, hWP⟩ : ∃ WP, WP = WS.alloc (.cells #[.int .i64 e.number, .int .i64 e.time, .int .i64 e.kind, .int .i64 e.entity, .slice ta told.length tc] 46) := ⟨_, rfl⟩
      have HWP : Hid (WP = (((((ws.setCell ⟨rb, 3, none⟩ (.int .i64 st'.taken)).setCell ⟨rb, 4, none⟩ (.int .i64 st'.clock)).setCell ⟨rb, 5, none⟩ (.int .i64 st'.next)).setCell ⟨rb, 6, none⟩ (.slice (some ⟨gb, 0, none⟩) (ents * 4).toNat cap)).setCell ⟨rb, 7, none⟩ (.slice qa2 st'.q.length qc2)).alloc (.cells #[.int .i64 e.number, .int .i64 e.time, .int .i64 e.kind, .int .i64 e.entity, .slice ta told.length tc] 46)) := by show _ = _; rw [hWP, hWS]; rfl
      have hzS : WS.heap.size = ws.heap.size := by rw [hWS]; simp [putK, World.setCell]
      have hbS : Below WS.heap.size WS WP := by rw [hWP]; exact alloc_below _ _
      have hzP : WP.heap.size = ws.heap.size + 1 := by rw [hWP]; simp [hzS]
      have hOS : Only (· = rb) ws WS := by rw [hWS]; exact only_putK _ _ _ _ _ _ _
      have hOP : Only (· = rb) ws WP := hOS.trans (Only.new hbS)
      have hzs := HOs.out.size
      have hzc := HBC.out.size
      have hzr2 := HI.out.only.size
      have hR2' : ∀ b, R2 b → (R' b ∨ wr.heap.size ≤ b) ∧ b < ws.heap.size ∧ b ≠ rb := by
       intro b hb
       have h2 := Hrc2.out.far b hb
       rcases HR2.out b hb with (h1 | h1) | h1
       ·exact ⟨.inl h1, h2.1, (HI.out.lt b h1).2⟩
       ·exact ⟨.inr h1.1, h2.1, by omega⟩
       ·exact ⟨.inr (by omega), h2.1, by omega⟩
      have hTK := HRef.out.take Hrc2.out ⟨by omega, by omega⟩ (fun b hb => (HI.out.lt b hb).2) (fun b hb => (hR2' b hb).2.2) (by omega) (cap := cap) (qv := .slice qa2 st'.q.length qc2) c7 hcap
      rw [← hWS] at hTK
      replace hTK := hTK.only (Only.new (S := fun _ => False) hbS) (by simp) (by simp)
      have hAP : AllR WP w.heap.size (.slice va L.length vc) L rs := HAll.out.only hOP (fun b hb => by have := (HAll.out.lt b hb).1; omega)
      have hTP : WP.ownsRow w.heap.size 3 1 (.slice ta told.length tc) told.length (ints told) := owns_base (owns_keep Hown2.out hOP (fun b hb => by have := (Hown2.out.lt b hb.symm).1; omega)) (by omega)
      have hav : ∀ b, some b = (Value.slice va L.length vc).ownBlock → w.heap.size ≤ b ∧ b < wr.heap.size := fun b hb => ⟨(HI.out.all.lt b (.inl hb)).1, (HI.out.all.lt b (.inl hb)).2⟩
      have HTold : Hid (∀ b, some b = (Value.slice ta told.length tc).ownBlock → wc.heap.size ≤ b) := fun b hb => (Hown2.out.lt b hb.symm).1
      have HTK := hide hTK
      have HAP := hide hAP
      have HTP := hide hTP
      have Hav := hide hav
      have HR2' := hide hR2'
      have HOP := hide hOP
      have HsR : Hid (RowAt (WP.alloc (.cells #[.int .i64 e.number, .int .i64 e.time, .int .i64 e.kind, .int .i64 e.entity, .slice ta told.length tc] 46)) (ws.heap.size + 1) 0 (RecC.cells ⟨e, ta, told.length, tc⟩)) := sized hzP (row_new WP _ [_, _, _, _, _])
      have hkl : L.length ≤ k := by rw [HI.out.all.len, HI.out.len]; exact Nat.le_refl _
      clear hTK hAP hTP hav hR2' hOP hbS hOS hWS hWP hcap
      go_wp2_with (at_builtin; rw [← HWP.out]; refine wpList_append_src rfl (.tmp 87) (.tmp 89) 39 rfl w.heap.size 46 (.agg #[.int .i64 0, .int .i64 0, .int .i64 0, .int .i64 0, .slice none 0 0]) 5 56 Tryz.underlying39 Tryz.infoR rfl (by omega) _ L.length (recCells L) rfl (HAP.out.row.alloc _) _ 1 (RecC.cells ⟨e, ta, told.length, tc⟩) rfl (.inr (.inl ⟨ws.heap.size + 1, 0, 1, rfl, HsR.out⟩)) rfl (recCells_one [⟨e, ta, told.length, tc⟩]) (by omega) (by omega) (by simp; omega) ?_)
      intro v5 w5 xo xg xw
      obtain ⟨va5, vc5, rfl⟩ := owns_formK xo.out
      have hz5 := xg.out.size
      simp only [World.size_alloc] at hz5
      have hF5 := happenF_fit Hcode.out Hd.out HI.out.fit Hq.out.1
      rw [Hh.out] at hF5
      have hbA := alloc_below WP (.cells #[.int .i64 e.number, .int .i64 e.time, .int .i64 e.kind, .int .i64 e.entity, .slice ta told.length tc] 46)
      have HN : Hid (RrI R w w5 rb ents ks draws horizon n (k + 1) RES (.slice va5 (L.length + 1) vc5) st' (L ++ [⟨e, ta, told.length, tc⟩]) (rs ++ [⟨e, told⟩]) (fun b => R' b ∨ R2 b ∨ b = gb)) := by
       refine ⟨?_, ?_, ?_, ?_, ?_, ?_, hF5.1, ?_, ?_⟩
       ·refine (((((HI.out.only.trans (Only.new HBC.out)).chain HOs.out (fun i hi hx => by omega)).trans HOP.out).trans (Only.new hbA)).chain (only_of_grown xg.out) (fun i hi hx => by have := (Hav.out i hx).1; omega))
       ·refine (HTK.out.only (Only.new (S := fun _ => False) hbA) (by simp) (by simp)).only (only_of_grown xg.out) ?_ (fun hc => by have := (Hav.out rb hc).1; omega)
        rintro b (hb | hb | hb) hc
        ·exact HI.out.nap b hc hb
        ·rcases (HR2'.out b hb).1 with h1 | h1
         ·exact HI.out.nap b hc h1
         ·have := (Hav.out b hc).2; omega
        ·have := (Hav.out b hc).2; omega
       ·rintro b (hb | hb | hb)
        ·exact HI.out.sub b hb
        ·rcases (HR2'.out b hb).1 with h1 | h1
         ·exact HI.out.sub b h1
         ·exact .inr (by omega)
        ·exact .inr (by omega)
       ·rintro b (hb | hb | hb)
        ·have := HI.out.lt b hb; exact ⟨by omega, this.2⟩
        ·have := (HR2'.out b hb).2; exact ⟨by omega, this.2⟩
        ·exact ⟨by omega, by omega⟩
       ·refine (HAP.out.only (Only.new (S := fun _ => False) hbA) (by simp)).snoc rfl rfl (owns_keep HTP.out (Only.new (S := fun _ => False) hbA) (by simp)) xg.out xo.out (by simpa [hzP] using xw.out) ?_
        intro b hb hc
        have := HTold.out b hb
        have := (Hav.out b hc).2
        omega
       ·intro b hb hc
        have hb5 : some b = (Value.slice va L.length vc).ownBlock ∨ b = WP.heap.size + 1 := by
         rcases xw.out with e5 | e5
         ·exact .inl (by rw [← e5]; exact hb)
         ·right
          rw [e5] at hb
          have := Option.some.inj hb
          simpa [hzP] using this
        rcases hb5 with hb5 | hb5
        ·rcases hc with hc | hc | hc
         ·exact HI.out.nap b hb5 hc
         ·rcases (HR2'.out b hc).1 with h1 | h1
          ·exact HI.out.nap b hb5 h1
          ·have := (Hav.out b hb5).2; omega
         ·have := (Hav.out b hb5).2; omega
        ·rcases hc with hc | hc | hc
         ·have := (HI.out.lt b hc).1; omega
         ·have := (HR2'.out b hc).2.1; omega
         ·omega
       ·rw [HI.out.res, Hm.out, show n - (k + 1) = m by have := Hm.out; omega]
        simp [runF, stepF, Hq.out.1, if_neg (show ¬ horizon < e.time by have := Hz.out; omega), Hh.out]
       ·simp [HI.out.len]
      clear xo xg xw hF5 hbA HsR HWP
      go_wp2_with fail
      go_roundw
      case rel => exact ⟨k + 1, st', _, _, _, by omega, by go_num, HN.out⟩
      case measure => simp [intOf]; omega
     ·have HOs := hide hos
      clear hos
      simp only at hw0
      have hw1 : (why != 0) = true := by simpa using hw0
      have hF : RES = (st, rs, why) := by
       rw [HI.out.res, Hm.out]
       simp [runF, stepF, Hq.out.1, if_neg (show ¬ horizon < e.time by have := Hz.out; omega), Hh.out, hw0]
      have HF := hide hF
      clear hF
      have hzs := HOs.out.size
      have hzr2 := HI.out.only.size
      unfold rec0
      go_wp2_with fail
      go_ret3
      rw [HF.out]
      have hb0 : Only (· = rb) wr (ws.alloc (.cells #[.int .i64 0, .int .i64 0, .int .i64 0, .int .i64 0, .slice none 0 0] 46)) := ((Only.new HBC.out).chain HOs.out (fun i hi hx => by omega)).trans (Only.new (alloc_below _ _))
      have hb1 : Below wr.heap.size wr (ws.alloc (.cells #[.int .i64 0, .int .i64 0, .int .i64 0, .int .i64 0, .slice none 0 0] 46)) := (((Only.new (S := fun _ => False) HBC.out).chain HOs.out (fun i hi hx => by omega)).trans (Only.new (alloc_below _ _))).below (Nat.le_refl _) (fun _ _ h => h)
      refine ⟨_, L, R', rfl, HI.out.only.trans hb0, HI.out.ref.only (Only.new (S := fun _ => False) hb1) (by simp) (by simp), HI.out.sub, fun b hb => ⟨?_, (HI.out.lt b hb).2⟩, HI.out.all.only (Only.new (S := fun _ => False) hb1) (by simp)⟩
      have := (HI.out.lt b hb).1
      have := hb1.size
      omega
  ·have d1 : decide ((k : Int) < (n : Int)) = false := by simp; omega
   have hkn : k = n := by omega
   have hF : RES = (st, rs, 0) := by
    rw [HI.out.res, hkn]
    simp [runF]
   have HF := hide hF
   clear hF hkn
   go_wp2_with fail
   go_ret3
   rw [HF.out]
   exact ⟨_, L, R', rfl, HI.out.only, HI.out.ref, HI.out.sub, HI.out.lt, HI.out.all⟩
end Go.Proofs.YtndlmgocldckfaaGreat
