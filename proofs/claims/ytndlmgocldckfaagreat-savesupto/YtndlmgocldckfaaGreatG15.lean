import Derived.Test.YtndlmgocldckfaaGreatStp
import Derived.Conc.LoneCalls
namespace Go.Proofs.YtndlmgocldckfaaGreat
open Go.RowKit
set_option linter.unusedVariables false
set_option linter.unusedSimpArgs false
set_option maxRecDepth 100000
set_option maxHeartbeats 4000000
theorem step_empty {R : Nat → Prop} {base : Nat} (kb qb mb sqb : Nat) (ov : Value) (ents : Int) (ks : List (List Ins)) (draws : List Int) (s : KS) (horizon : Int) (w : World) (h : KerP R base w kb qb mb ov ents ks draws s) (hq : s.q = []) :
  Calls Tryz.prog 116 #[.pointer (some ⟨kb, 0, none⟩), .int .i64 horizon, .pointer (some ⟨sqb, 0, none⟩)] w fun e' w' => e' = .returned (.tuple #[rec0, .int .i64 1]) ∧ Below w.heap.size w w' := by
 have h3 := h.c3
 have hkl := h.klt
 have HQ : Hid (QueP base w qb mb ov []) := by rw [← hq]; exact h.que
 clear h hq
 go_enter Tryz.func116, Tryz.ntmps116
 go_wp2_with (go_at_call 126; refine (qFirst_none qb mb ov _ (HQ.out.below ((Below.refl _ _).alloc (Nat.le_refl _) _))).mono ?_; rintro e' w1 ⟨rfl, hb1⟩; (have z : ∀ (j : Nat) (v : Value), #[Value.int .i64 0, .int .i64 0, .int .i64 0, .int .i64 0, .slice none 0 0][j]? = some v → w1.cell? ⟨w.heap.size, j, none⟩ = some v ∧ w1.frozen? ⟨w.heap.size, j, none⟩ = false := (by intro j v hv; have hb : w1.heap[w.heap.size]? = some (.cells #[.int .i64 0, .int .i64 0, .int .i64 0, .int .i64 0, .slice none 0 0] 46 (0, 0)) := (hb1.block w.heap.size (by simp)).trans (heap_new _ _); simp only [World.cell?, World.frozen?, hb]; exact ⟨hv, rfl⟩)); obtain ⟨z0, y0⟩ := z 0 _ rfl; obtain ⟨z1, y1⟩ := z 1 _ rfl; obtain ⟨z2, y2⟩ := z 2 _ rfl; obtain ⟨z3, y3⟩ := z 3 _ rfl; obtain ⟨z4, y4⟩ := z 4 _ rfl; clear z; (have hz1 : w.heap.size < w1.heap.size := by (have := hb1.size; simp at this; omega)))
 have hroom : Room w1 w.heap.size 5 := by
  intro j hj
  have : j = 0 ∨ j = 1 ∨ j = 2 ∨ j = 3 ∨ j = 4 := by omega
  rcases this with rfl | rfl | rfl | rfl | rfl
  ·exact ⟨by rw [z0]; rfl, y0⟩
  ·exact ⟨by rw [z1]; rfl, y1⟩
  ·exact ⟨by rw [z2]; rfl, y2⟩
  ·exact ⟨by rw [z3]; rfl, y3⟩
  ·exact ⟨by rw [z4]; rfl, y4⟩
 obtain ⟨t0, t1, t2, t3, t4⟩ := set5_at hroom (.int .i64 0) (.int .i64 0) (.int .i64 0) (.int .i64 0) (.slice none 0 0)
 have hoZ := only_set5 w1 w.heap.size (.int .i64 0) (.int .i64 0) (.int .i64 0) (.int .i64 0) (.slice none 0 0)
 obtain ⟨WZ, hWZ⟩ : ∃ WZ, WZ = set5 w1 w.heap.size (.int .i64 0) (.int .i64 0) (.int .i64 0) (.int .i64 0) (.slice none 0 0) := ⟨_, rfl⟩
 have hWZ' := hWZ
 unfold set5 at hWZ'
 rw [← hWZ] at t0 t1 t2 t3 t4 hoZ
 rw [← hWZ']
 clear hWZ hWZ' z0 z1 z2 z3 z4 y0 y1 y2 y3 y4
 have hzZ := hoZ.size
 have hbw : Below w.heap.size w w1 := ((Below.refl _ _).alloc (Nat.le_refl _) _).trans (hb1.mono (by simp))
 have hbZ : Below w.heap.size w WZ := hbw.trans (hoZ.below (by omega) (fun k hk hc => by omega))
 refine bodyPost_ret (v := .tuple #[.agg #[.int .i64 0, .int .i64 0, .int .i64 0, .int .i64 0, .slice none 0 0], .int .i64 1]) ?_ rfl ?_
 ·rw [results_cell_tmp rfl]; simp [go_sem, t0, t1, t2, t3, t4, show w.heap.size < WZ.heap.size by omega]
 exact ⟨rfl, hbZ.alloc (by omega) _⟩
theorem step_late {R : Nat → Prop} {base : Nat} (kb qb mb sqb : Nat) (ov : Value) (ents : Int) (ks : List (List Ins)) (draws : List Int) (s : KS) (horizon : Int) (e : Ev) (l : List Ev) (w : World) (h : KerP R base w kb qb mb ov ents ks draws s) (hq : s.q = e :: l) (hz : horizon < e.time) :
  Calls Tryz.prog 116 #[.pointer (some ⟨kb, 0, none⟩), .int .i64 horizon, .pointer (some ⟨sqb, 0, none⟩)] w fun e' w' => e' = .returned (.tuple #[rec0, .int .i64 2]) ∧ Below w.heap.size w w' := by
 have h3 := h.c3
 have hkl := h.klt
 have HQ : Hid (QueP base w qb mb ov (e :: l)) := by rw [← hq]; exact h.que
 have hz' : decide (horizon < e.time) = true := by simpa using hz
 clear h hq
 go_enter Tryz.func116, Tryz.ntmps116
 go_wp2_with (go_at_call 126; refine (qFirst_some qb mb ov e l _ (HQ.out.below ((Below.refl _ _).alloc (Nat.le_refl _) _))).mono ?_; rintro e' w1 ⟨rfl, hb1⟩; simp only [evVal]; (have z : ∀ (j : Nat) (v : Value), #[Value.int .i64 0, .int .i64 0, .int .i64 0, .int .i64 0, .slice none 0 0][j]? = some v → w1.cell? ⟨w.heap.size, j, none⟩ = some v ∧ w1.frozen? ⟨w.heap.size, j, none⟩ = false := (by intro j v hv; have hb : w1.heap[w.heap.size]? = some (.cells #[.int .i64 0, .int .i64 0, .int .i64 0, .int .i64 0, .slice none 0 0] 46 (0, 0)) := (hb1.block w.heap.size (by simp)).trans (heap_new _ _); simp only [World.cell?, World.frozen?, hb]; exact ⟨hv, rfl⟩)); obtain ⟨z0, y0⟩ := z 0 _ rfl; obtain ⟨z1, y1⟩ := z 1 _ rfl; obtain ⟨z2, y2⟩ := z 2 _ rfl; obtain ⟨z3, y3⟩ := z 3 _ rfl; obtain ⟨z4, y4⟩ := z 4 _ rfl; clear z; (have hz1 : w.heap.size < w1.heap.size := by (have := hb1.size; simp at this; omega)))
 have hroom : Room w1 w.heap.size 5 := by
  intro j hj
  have : j = 0 ∨ j = 1 ∨ j = 2 ∨ j = 3 ∨ j = 4 := by omega
  rcases this with rfl | rfl | rfl | rfl | rfl
  ·exact ⟨by rw [z0]; rfl, y0⟩
  ·exact ⟨by rw [z1]; rfl, y1⟩
  ·exact ⟨by rw [z2]; rfl, y2⟩
  ·exact ⟨by rw [z3]; rfl, y3⟩
  ·exact ⟨by rw [z4]; rfl, y4⟩
 obtain ⟨t0, t1, t2, t3, t4⟩ := set5_at hroom (.int .i64 0) (.int .i64 0) (.int .i64 0) (.int .i64 0) (.slice none 0 0)
 have hoZ := only_set5 w1 w.heap.size (.int .i64 0) (.int .i64 0) (.int .i64 0) (.int .i64 0) (.slice none 0 0)
 obtain ⟨WZ, hWZ⟩ : ∃ WZ, WZ = set5 w1 w.heap.size (.int .i64 0) (.int .i64 0) (.int .i64 0) (.int .i64 0) (.slice none 0 0) := ⟨_, rfl⟩
 have hWZ' := hWZ
 unfold set5 at hWZ'
 rw [← hWZ] at t0 t1 t2 t3 t4 hoZ
 rw [← hWZ']
 clear hWZ hWZ' z0 z1 z2 z3 z4 y0 y1 y2 y3 y4
 have hzZ := hoZ.size
 have hbw : Below w.heap.size w w1 := ((Below.refl _ _).alloc (Nat.le_refl _) _).trans (hb1.mono (by simp))
 have hbZ : Below w.heap.size w WZ := hbw.trans (hoZ.below (by omega) (fun k hk hc => by omega))
 refine bodyPost_ret (v := .tuple #[.agg #[.int .i64 0, .int .i64 0, .int .i64 0, .int .i64 0, .slice none 0 0], .int .i64 2]) ?_ rfl ?_
 ·rw [results_cell_tmp rfl]; simp [go_sem, t0, t1, t2, t3, t4, show w.heap.size < WZ.heap.size by omega]
 exact ⟨rfl, hbZ.alloc (by omega) _⟩
def StepAll (R : Nat → Prop) (base base' : Nat) (w : World) (kb qb mb sqb smb : Nat) (ov sov : Value) (ents : Int) (ks : List (List Ins)) (draws : List Int) (s : KS) (F : KS × Option Rec × Int) (e' : Ending) (w' : World) : Prop :=
 ∃ ov' sov' qx', Only (Both kb qb mb sqb smb ov sov) w w' ∧ Moved w ov ov' ∧ Moved w sov sov' ∧ QueP base' w' sqb smb sov' qx' ∧ Beside R kb qb mb sqb smb ov' sov' ∧ KOk ents ks.length draws F.1 ∧ KerP R base w' kb qb mb ov' ents ks draws F.1 ∧
  ((F.2.2 ≠ 0 ∧ F.2.1 = none ∧ F.1 = s ∧ e' = .returned (.tuple #[rec0, .int .i64 F.2.2])) ∨
   (F.2.2 = 0 ∧ ∃ tv r, F.2.1 = some r ∧ e' = .returned (.tuple #[recV r.e tv, .int .i64 0]) ∧
     w'.ownsRow w.heap.size 3 1 tv r.told.length (ints r.told) ∧ ∀ b, some b = tv.ownBlock → ¬ Both kb qb mb sqb smb ov' sov' b))
theorem step_any {R : Nat → Prop} {base base' : Nat} (kb qb mb sqb smb : Nat) (ov sov : Value) (ents : Int) (ks : List (List Ins)) (draws : List Int) (s : KS) (qx : List Ev) (horizon : Int) (w : World) (h : KerP R base w kb qb mb ov ents ks draws s)
  (hs : QueP base' w sqb smb sov qx) (hbes : Beside R kb qb mb sqb smb ov sov) (hbase : base ≤ w.heap.size) (hbase' : base' ≤ w.heap.size) (hok : KOk ents ks.length draws s) (hents : ents ≤ 8) (hk8 : ks.length ≤ 8)
  (hcode : ∀ l ∈ ks, l.length ≤ 16 ∧ ∀ x ∈ l, mayF ents ks.length x.op x.a x.b x.c = true) (hd : ∀ d ∈ draws, 0 ≤ d ∧ d ≤ 1000000000) :
  Calls Tryz.prog 116 #[.pointer (some ⟨kb, 0, none⟩), .int .i64 horizon, .pointer (some ⟨sqb, 0, none⟩)] w (StepAll R base base' w kb qb mb sqb smb ov sov ents ks draws s (stepF ks draws horizon s)) := by
 rcases hq : s.q with _ | ⟨e, l⟩
 ·have hF : stepF ks draws horizon s = (s, none, 1) := by simp [stepF, hq]
  rw [hF]
  refine (step_empty kb qb mb sqb ov ents ks draws s horizon w h hq).mono ?_
  rintro e' w' ⟨rfl, hb⟩
  exact ⟨ov, sov, qx, Only.new hb, .inl rfl, .inl rfl, hs.below hb, hbes, hok, h.below hb, .inl ⟨by simp, rfl, rfl, rfl⟩⟩
 ·by_cases hz : horizon < e.time
  ·have hF : stepF ks draws horizon s = (s, none, 2) := by simp [stepF, hq, hz]
   rw [hF]
   refine (step_late kb qb mb sqb ov ents ks draws s horizon e l w h hq hz).mono ?_
   rintro e' w' ⟨rfl, hb⟩
   exact ⟨ov, sov, qx, Only.new hb, .inl rfl, .inl rfl, hs.below hb, hbes, hok, h.below hb, .inl ⟨by simp, rfl, rfl, rfl⟩⟩
  ·refine (step_run kb qb mb sqb smb ov sov ents ks draws s qx horizon e l w h hq hz hs hbes hbase hbase' hok hents hk8 hcode hd).mono ?_
   rintro e' w' ⟨ov', sov', qx', h1, h2, h3, h4, h5, h6⟩
   rcases hh : happenF ks draws e s with ⟨s', told, why⟩
   rw [hh] at h6
   rcases h6 with ⟨hw, rfl, hk⟩ | ⟨hw, tv, rfl, hk, hok', hown, hsep⟩
   ·have hF : stepF ks draws horizon s = (s, none, why) := by
     simp only [stepF, hq]; rw [if_neg hz, hh]; simp only; rw [if_neg hw]
    rw [hF]
    exact ⟨ov', sov', qx', h1, h2, h3, h4, h5, hok, hk, .inl ⟨hw, rfl, rfl, rfl⟩⟩
   ·have hF : stepF ks draws horizon s = (s', some ⟨e, told⟩, 0) := by
     simp only [stepF, hq]; rw [if_neg hz, hh]; simp only; rw [if_pos hw]
    rw [hF]
    exact ⟨ov', sov', qx', h1, h2, h3, h4, h5, hok', hk, .inr ⟨rfl, tv, ⟨e, told⟩, rfl, rfl, hown, hsep⟩⟩
end Go.Proofs.YtndlmgocldckfaaGreat

namespace Go.Proofs.YtndlmgocldckfaaGreat
open Go.RowKit Go.Conc
set_option linter.unusedVariables false
set_option linter.unusedSimpArgs false
set_option maxRecDepth 100000
set_option maxHeartbeats 4000000
section
variable {P : Program} {Q : Goroutine → World → Prop} {b : Frame} {a : Act} {k : List Item} {cs : List Frame} {w : World}
theorem lone_code {c : Code} (h : c.wp P (Exit.then (fun a' w' => LoneTo P Q (G (b.at a' k) cs) w') (fun _ _ _ => False)) a w) : LoneTo P Q (G (b.at a (.code c :: k)) cs) w := by
 obtain ⟨e, a', w', hq, harr⟩ := h b k cs
 cases e with
 | normal =>
  obtain ⟨g, w2, hs, hQ⟩ := hq
  exact ⟨g, w2, Steps.trans harr hs, hQ⟩
 | _ => exact hq.elim
theorem lone_seq {x y : Code} (h : LoneTo P Q (G (b.at a (.code x :: .code y :: k)) cs) w) : LoneTo P Q (G (b.at a (.code (.seq x y) :: k)) cs) w := .step (step_solo_go rfl stepG_seq) h
theorem lone_skip (h : LoneTo P Q (G (b.at a k) cs) w) : LoneTo P Q (G (b.at a (.code .skip :: k)) cs) w := .step (step_solo_go rfl stepG_skip) h
theorem lone_block {id : Nat} {c : Code} (h : LoneTo P Q (G (b.at a (.code c :: .inBlock id :: k)) cs) w) : LoneTo P Q (G (b.at a (.code (.block id c) :: k)) cs) w := .step (step_solo_go rfl stepG_block) h
theorem lone_inBlock {id : Nat} (h : LoneTo P Q (G (b.at a k) cs) w) : LoneTo P Q (G (b.at a (.inBlock id :: k)) cs) w := .step (step_solo_go rfl stepG_inBlock) h
theorem lone_loop {c : Code} (h : LoneTo P Q (G (b.at a (.code c :: .inLoop c :: k)) cs) w) : LoneTo P Q (G (b.at a (.code (.loop c) :: k)) cs) w := .step (step_solo_go rfl stepG_loop) h
theorem lone_inLoop {c : Code} (h : LoneTo P Q (G (b.at a (.code c :: .inLoop c :: k)) cs) w) : LoneTo P Q (G (b.at a (.inLoop c :: k)) cs) w := .step (step_solo_go rfl stepG_inLoop) h
theorem lone_exit {id : Nat} {k' : List Item} (he : exitTo id k = some k') (h : LoneTo P Q (G (b.at a k') cs) w) : LoneTo P Q (G (b.at a (.code (.exit id) :: k)) cs) w := .step (step_solo_go rfl (stepG_exit he)) h
theorem lone_cond {c : Operand} {x y : Code} {t : Bool} (hc : a.eval c = .bool t) (h : LoneTo P Q (G (b.at a (.code (if t then x else y) :: k)) cs) w) : LoneTo P Q (G (b.at a (.code (.cond c x y) :: k)) cs) w := .step (step_solo_go rfl (stepG_cond hc)) h
theorem lone_send {id : Nat} {o0 o1 o2 : Oper} {xc xv : Operand} {v0 v1 v : Value} {c cap s r : Nat} {buf : Array Value} {tm : Bool} (hb : b.kind ≠ .early) (g0 : o0.guard = none) (g1 : o1.guard = none) (g2 : o2.guard = none)
  (h0 : (execOp a.eval o0).run P w = .ok (.value v0) w) (h1 : (execOp (a.put o0.dst v0).eval o1).run P w = .ok (.value v1) w) (h2 : o2.op = .send xc xv)
  (hc : ((a.put o0.dst v0).put o1.dst v1).eval xc = .chan (some c)) (hv : ((a.put o0.dst v0).put o1.dst v1).eval xv = v) (hch : w.heap[c]? = some (.chan cap buf false s r tm)) (hroom : buf.size < cap)
  (h : LoneTo P Q (G (b.at (((a.put o0.dst v0).put o1.dst v1).put o2.dst undef) k) cs) (w.setChan c cap (buf.push v) false (s + 1) r tm)) :
  LoneTo P Q (G (b.at a (.code (.region id #[o0, o1, o2] false) :: k)) cs) w := by
 refine .step (step_solo_go rfl stepG_region) ?_
 show LoneTo P Q (G (b.at a (.inRegion #[o0, o1, o2] [0, 1, 2] :: k)) cs) w
 refine .step (step_solo_go rfl (stepG_value (o := o0) rfl (by simp [Region.wanted, g0]) hb h0)) ?_
 refine .step (step_solo_go rfl (stepG_value (o := o1) rfl (by simp [Region.wanted, g1]) hb h1)) ?_
 refine .step (step_lone_send_room (c := c) (cap := cap) (buf := buf) (s := s) (r := r) (tm := tm) (v := v) (z' := .tuple #[]) (w₁ := w) (stepG_comm (o := o2) (cases := #[scase c v (.tuple #[])]) (blocking := true) (shape := .send) (w' := w) rfl (by simp [Region.wanted, g2]) hb (by simp [execOp, h2, hc, hv, scase])) hch hroom) ?_
 rw [Frame.finish_at]
 refine .step (step_solo_go rfl stepG_region_end) ?_
 exact h
end
end Go.Proofs.YtndlmgocldckfaaGreat
