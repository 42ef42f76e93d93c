import Derived.Test.YtndlmgocldckfaaGreatStp
import Derived.Conc.LoneCalls
import Derived.Test.YtndlmgocldckfaaGreatKnZ
namespace Go.Proofs.YtndlmgocldckfaaGreat
open Go.RowKit
set_option linter.unusedVariables false
set_option linter.unusedSimpArgs false

set_option maxHeartbeats 2000000 in
set_option maxRecDepth 1000000 in
theorem step_empty {R : Nat → Prop} {base : Nat} (kb qb mb sqb : Nat) (ov : Value) (ents : Int) (ks : List (List Ins)) (draws : List Int) (s : KS) (horizon : Int) (w : World) (h : KerP R base w kb qb mb ov ents ks draws s) (hq : s.q = []) :
    Calls Tryz.prog 116 #[.pointer (some ⟨kb, 0, none⟩), .int .i64 horizon, .pointer (some ⟨sqb, 0, none⟩)] w fun e' w' => e' = .returned (.tuple #[rec0, .int .i64 1]) ∧ Below w.heap.size w w' := by
  have h3 := h.c3
  have hkl := h.klt
  have HQ : Hid (QueP base w qb mb ov []) := by rw [← hq]; exact h.que
  clear h hq
  go_enter Tryz.func116, Tryz.ntmps116
  go_wp2_with (go_at_call 126; refine (qFirst_none qb mb ov _ (HQ.out.below ((Below.refl _ _).alloc (Nat.le_refl _) _))).mono ?_; rintro e' w1 ⟨rfl, hb1⟩; (have z : ∀ (j : Nat) (v : Value), #[Value.int .i64 0, .int .i64 0, .int .i64 0, .int .i64 0, .slice none 0 0][j]? = some v → w1.cell? ⟨w.heap.size, j, none⟩ = some v ∧ w1.frozen? ⟨w.heap.size, j, none⟩ = false := (by intro j v hv; have hb : w1.heap[w.heap.size]? = some (.cells #[.int .i64 0, .int .i64 0, .int .i64 0, .int .i64 0, .slice none 0 0] 46 (0, 0)) := (hb1.block w.heap.size (by simp)).trans (heap_new _ _); simp only [World.cell?, World.frozen?, hb]; exact ⟨hv, rfl⟩)); obtain ⟨z0, y0⟩ := z 0 _ rfl; obtain ⟨z1, y1⟩ := z 1 _ rfl; obtain ⟨z2, y2⟩ := z 2 _ rfl; obtain ⟨z3, y3⟩ := z 3 _ rfl; obtain ⟨z4, y4⟩ := z 4 _ rfl; clear z; (have hz1 : w.heap.size < w1.heap.size := by (have := hb1.size; simp at this; omega)))
  have hroom : Room w1 w.heap.size 5 := by
    intro j hj
    have : j = 0 ∨ j = 1 ∨ j = 2 ∨ j = 3 ∨ j = 4 := by omega
    rcases this with rfl | rfl | rfl | rfl | rfl
    · exact ⟨by rw [z0]; rfl, y0⟩
    · exact ⟨by rw [z1]; rfl, y1⟩
    · exact ⟨by rw [z2]; rfl, y2⟩
    · exact ⟨by rw [z3]; rfl, y3⟩
    · exact ⟨by rw [z4]; rfl, y4⟩
  obtain ⟨t0, t1, t2, t3, t4⟩ := set5_at hroom (.int .i64 0) (.int .i64 0) (.int .i64 0) (.int .i64 0) (.slice none 0 0)
  have hoZ := only_set5 w1 w.heap.size (.int .i64 0) (.int .i64 0) (.int .i64 0) (.int .i64 0) (.slice none 0 0)
  obtain ⟨WZ, hWZ⟩ : ∃ WZ, WZ = set5 w1 w.heap.size (.int .i64 0) (.int .i64 0) (.int .i64 0) (.int .i64 0) (.slice none 0 0) := ⟨_, rfl⟩
  have hWZ' := hWZ
  unfold set5 at hWZ'
  rw [← hWZ] at t0 t1 t2 t3 t4 hoZ
  rw [← hWZ']
  clear hWZ hWZ' z0 z1 z2 z3 z4 y0 y1 y2 y3 y4
  have hzZ := hoZ.size
  have hbw : Below w.heap.size w w1 := ((Below.refl _ _).alloc (Nat.le_refl _) _).trans (hb1.mono (by simp))
  have hbZ : Below w.heap.size w WZ := hbw.trans (hoZ.below (by omega) (fun k hk hc => by omega))
  refine bodyPost_ret (v := .tuple #[.agg #[.int .i64 0, .int .i64 0, .int .i64 0, .int .i64 0, .slice none 0 0], .int .i64 1]) ?_ rfl ?_
  · rw [results_cell_tmp rfl]; simp [go_sem, t0, t1, t2, t3, t4, show w.heap.size < WZ.heap.size by omega]
  exact ⟨rfl, hbZ.alloc (by omega) _⟩

set_option maxHeartbeats 2000000 in
set_option maxRecDepth 1000000 in
theorem step_late {R : Nat → Prop} {base : Nat} (kb qb mb sqb : Nat) (ov : Value) (ents : Int) (ks : List (List Ins)) (draws : List Int) (s : KS) (horizon : Int) (e : Ev) (l : List Ev) (w : World) (h : KerP R base w kb qb mb ov ents ks draws s) (hq : s.q = e :: l) (hz : horizon < e.time) :
    Calls Tryz.prog 116 #[.pointer (some ⟨kb, 0, none⟩), .int .i64 horizon, .pointer (some ⟨sqb, 0, none⟩)] w fun e' w' => e' = .returned (.tuple #[rec0, .int .i64 2]) ∧ Below w.heap.size w w' := by
  have h3 := h.c3
  have hkl := h.klt
  have HQ : Hid (QueP base w qb mb ov (e :: l)) := by rw [← hq]; exact h.que
  have hz' : decide (horizon < e.time) = true := by simpa using hz
  clear h hq
  go_enter Tryz.func116, Tryz.ntmps116
  go_wp2_with (go_at_call 126; refine (qFirst_some qb mb ov e l _ (HQ.out.below ((Below.refl _ _).alloc (Nat.le_refl _) _))).mono ?_; rintro e' w1 ⟨rfl, hb1⟩; simp only [evVal]; (have z : ∀ (j : Nat) (v : Value), #[Value.int .i64 0, .int .i64 0, .int .i64 0, .int .i64 0, .slice none 0 0][j]? = some v → w1.cell? ⟨w.heap.size, j, none⟩ = some v ∧ w1.frozen? ⟨w.heap.size, j, none⟩ = false := (by intro j v hv; have hb : w1.heap[w.heap.size]? = some (.cells #[.int .i64 0, .int .i64 0, .int .i64 0, .int .i64 0, .slice none 0 0] 46 (0, 0)) := (hb1.block w.heap.size (by simp)).trans (heap_new _ _); simp only [World.cell?, World.frozen?, hb]; exact ⟨hv, rfl⟩)); obtain ⟨z0, y0⟩ := z 0 _ rfl; obtain ⟨z1, y1⟩ := z 1 _ rfl; obtain ⟨z2, y2⟩ := z 2 _ rfl; obtain ⟨z3, y3⟩ := z 3 _ rfl; obtain ⟨z4, y4⟩ := z 4 _ rfl; clear z; (have hz1 : w.heap.size < w1.heap.size := by (have := hb1.size; simp at this; omega)))
  have hroom : Room w1 w.heap.size 5 := by
    intro j hj
    have : j = 0 ∨ j = 1 ∨ j = 2 ∨ j = 3 ∨ j = 4 := by omega
    rcases this with rfl | rfl | rfl | rfl | rfl
    · exact ⟨by rw [z0]; rfl, y0⟩
    · exact ⟨by rw [z1]; rfl, y1⟩
    · exact ⟨by rw [z2]; rfl, y2⟩
    · exact ⟨by rw [z3]; rfl, y3⟩
    · exact ⟨by rw [z4]; rfl, y4⟩
  obtain ⟨t0, t1, t2, t3, t4⟩ := set5_at hroom (.int .i64 0) (.int .i64 0) (.int .i64 0) (.int .i64 0) (.slice none 0 0)
  have hoZ := only_set5 w1 w.heap.size (.int .i64 0) (.int .i64 0) (.int .i64 0) (.int .i64 0) (.slice none 0 0)
  obtain ⟨WZ, hWZ⟩ : ∃ WZ, WZ = set5 w1 w.heap.size (.int .i64 0) (.int .i64 0) (.int .i64 0) (.int .i64 0) (.slice none 0 0) := ⟨_, rfl⟩
  have hWZ' := hWZ
  unfold set5 at hWZ'
  rw [← hWZ] at t0 t1 t2 t3 t4 hoZ
  rw [← hWZ']
  clear hWZ hWZ' z0 z1 z2 z3 z4 y0 y1 y2 y3 y4
  have hzZ := hoZ.size
  have hbw : Below w.heap.size w w1 := ((Below.refl _ _).alloc (Nat.le_refl _) _).trans (hb1.mono (by simp))
  have hbZ : Below w.heap.size w WZ := hbw.trans (hoZ.below (by omega) (fun k hk hc => by omega))
  refine bodyPost_ret (v := .tuple #[.agg #[.int .i64 0, .int .i64 0, .int .i64 0, .int .i64 0, .slice none 0 0], .int .i64 2]) ?_ rfl ?_
  · rw [results_cell_tmp rfl]; simp [go_sem, t0, t1, t2, t3, t4, show w.heap.size < WZ.heap.size by omega]
  exact ⟨rfl, hbZ.alloc (by omega) _⟩

/-- How it stands behind a step, whatever it was. -/
def StepAll (R : Nat → Prop) (base base' : Nat) (w : World) (kb qb mb sqb smb : Nat) (ov sov : Value) (ents : Int) (ks : List (List Ins)) (draws : List Int) (s : KS) (F : KS × Option Rec × Int) (e' : Ending) (w' : World) : Prop :=
  ∃ ov' sov' qx', Only (Both kb qb mb sqb smb ov sov) w w' ∧ Moved w ov ov' ∧ Moved w sov sov' ∧ QueP base' w' sqb smb sov' qx' ∧ Beside R kb qb mb sqb smb ov' sov' ∧ KOk ents ks.length draws F.1 ∧ KerP R base w' kb qb mb ov' ents ks draws F.1 ∧
    ((F.2.2 ≠ 0 ∧ F.2.1 = none ∧ F.1 = s ∧ e' = .returned (.tuple #[rec0, .int .i64 F.2.2])) ∨
     (F.2.2 = 0 ∧ ∃ tv r, F.2.1 = some r ∧ e' = .returned (.tuple #[recV r.e tv, .int .i64 0]) ∧
       w'.ownsRow w.heap.size 3 1 tv r.told.length (ints r.told) ∧ ∀ b, some b = tv.ownBlock → ¬ Both kb qb mb sqb smb ov' sov' b))

theorem step_any {R : Nat → Prop} {base base' : Nat} (kb qb mb sqb smb : Nat) (ov sov : Value) (ents : Int) (ks : List (List Ins)) (draws : List Int) (s : KS) (qx : List Ev) (horizon : Int) (w : World) (h : KerP R base w kb qb mb ov ents ks draws s)
    (hs : QueP base' w sqb smb sov qx) (hbes : Beside R kb qb mb sqb smb ov sov) (hbase : base ≤ w.heap.size) (hbase' : base' ≤ w.heap.size) (hok : KOk ents ks.length draws s) (hents : ents ≤ 8) (hk8 : ks.length ≤ 8)
    (hcode : ∀ l ∈ ks, l.length ≤ 16 ∧ ∀ x ∈ l, mayF ents ks.length x.op x.a x.b x.c = true) (hd : ∀ d ∈ draws, 0 ≤ d ∧ d ≤ 1000000000) :
    Calls Tryz.prog 116 #[.pointer (some ⟨kb, 0, none⟩), .int .i64 horizon, .pointer (some ⟨sqb, 0, none⟩)] w (StepAll R base base' w kb qb mb sqb smb ov sov ents ks draws s (stepF ks draws horizon s)) := by
  rcases hq : s.q with _ | ⟨e, l⟩
  · have hF : stepF ks draws horizon s = (s, none, 1) := by simp [stepF, hq]
    rw [hF]
    refine (step_empty kb qb mb sqb ov ents ks draws s horizon w h hq).mono ?_
    rintro e' w' ⟨rfl, hb⟩
    exact ⟨ov, sov, qx, Only.new hb, .inl rfl, .inl rfl, hs.below hb, hbes, hok, h.below hb, .inl ⟨by simp, rfl, rfl, rfl⟩⟩
  · by_cases hz : horizon < e.time
    · have hF : stepF ks draws horizon s = (s, none, 2) := by simp [stepF, hq, hz]
      rw [hF]
      refine (step_late kb qb mb sqb ov ents ks draws s horizon e l w h hq hz).mono ?_
      rintro e' w' ⟨rfl, hb⟩
      exact ⟨ov, sov, qx, Only.new hb, .inl rfl, .inl rfl, hs.below hb, hbes, hok, h.below hb, .inl ⟨by simp, rfl, rfl, rfl⟩⟩
    · refine (step_run kb qb mb sqb smb ov sov ents ks draws s qx horizon e l w h hq hz hs hbes hbase hbase' hok hents hk8 hcode hd).mono ?_
      rintro e' w' ⟨ov', sov', qx', h1, h2, h3, h4, h5, h6⟩
      rcases hh : happenF ks draws e s with ⟨s', told, why⟩
      rw [hh] at h6
      rcases h6 with ⟨hw, rfl, hk⟩ | ⟨hw, tv, rfl, hk, hok', hown, hsep⟩
      · have hF : stepF ks draws horizon s = (s, none, why) := by
          simp only [stepF, hq]; rw [if_neg hz, hh]; simp only; rw [if_neg hw]
        rw [hF]
        exact ⟨ov', sov', qx', h1, h2, h3, h4, h5, hok, hk, .inl ⟨hw, rfl, rfl, rfl⟩⟩
      · have hF : stepF ks draws horizon s = (s', some ⟨e, told⟩, 0) := by
          simp only [stepF, hq]; rw [if_neg hz, hh]; simp only; rw [if_pos hw]
        rw [hF]
        exact ⟨ov', sov', qx', h1, h2, h3, h4, h5, hok', hk, .inr ⟨rfl, tv, ⟨e, told⟩, rfl, rfl, hown, hsep⟩⟩
end Go.Proofs.YtndlmgocldckfaaGreat

namespace Go.Proofs.YtndlmgocldckfaaGreat
open Go.RowKit Go.Conc
set_option linter.unusedVariables false
set_option linter.unusedSimpArgs false

/-! Channels in one goroutine: the machine's own steps where something is sent or received; the walk everywhere else. -/

section
variable {P : Program} {Q : Goroutine → World → Prop} {b : Frame} {a : Act} {k : List Item} {cs : List Frame} {w : World}

/-- A piece of code that is walked. -/
theorem lone_code {c : Code} (h : c.wp P (Exit.then (fun a' w' => LoneTo P Q (G (b.at a' k) cs) w') (fun _ _ _ => False)) a w) : LoneTo P Q (G (b.at a (.code c :: k)) cs) w := by
  obtain ⟨e, a', w', hq, harr⟩ := h b k cs
  cases e with
  | normal =>
    obtain ⟨g, w2, hs, hQ⟩ := hq
    exact ⟨g, w2, Steps.trans harr hs, hQ⟩
  | _ => exact hq.elim
theorem lone_seq {x y : Code} (h : LoneTo P Q (G (b.at a (.code x :: .code y :: k)) cs) w) : LoneTo P Q (G (b.at a (.code (.seq x y) :: k)) cs) w := .step (step_solo_go rfl stepG_seq) h
theorem lone_skip (h : LoneTo P Q (G (b.at a k) cs) w) : LoneTo P Q (G (b.at a (.code .skip :: k)) cs) w := .step (step_solo_go rfl stepG_skip) h
theorem lone_block {id : Nat} {c : Code} (h : LoneTo P Q (G (b.at a (.code c :: .inBlock id :: k)) cs) w) : LoneTo P Q (G (b.at a (.code (.block id c) :: k)) cs) w := .step (step_solo_go rfl stepG_block) h
theorem lone_inBlock {id : Nat} (h : LoneTo P Q (G (b.at a k) cs) w) : LoneTo P Q (G (b.at a (.inBlock id :: k)) cs) w := .step (step_solo_go rfl stepG_inBlock) h
theorem lone_loop {c : Code} (h : LoneTo P Q (G (b.at a (.code c :: .inLoop c :: k)) cs) w) : LoneTo P Q (G (b.at a (.code (.loop c) :: k)) cs) w := .step (step_solo_go rfl stepG_loop) h
theorem lone_inLoop {c : Code} (h : LoneTo P Q (G (b.at a (.code c :: .inLoop c :: k)) cs) w) : LoneTo P Q (G (b.at a (.inLoop c :: k)) cs) w := .step (step_solo_go rfl stepG_inLoop) h
theorem lone_exit {id : Nat} {k' : List Item} (he : exitTo id k = some k') (h : LoneTo P Q (G (b.at a k') cs) w) : LoneTo P Q (G (b.at a (.code (.exit id) :: k)) cs) w := .step (step_solo_go rfl (stepG_exit he)) h
theorem lone_cond {c : Operand} {x y : Code} {t : Bool} (hc : a.eval c = .bool t) (h : LoneTo P Q (G (b.at a (.code (if t then x else y) :: k)) cs) w) : LoneTo P Q (G (b.at a (.code (.cond c x y) :: k)) cs) w := .step (step_solo_go rfl (stepG_cond hc)) h

/-- A region of three operations, the last of which sends into a channel with room. -/
theorem lone_send {id : Nat} {o0 o1 o2 : Oper} {xc xv : Operand} {v0 v1 v : Value} {c cap s r : Nat} {buf : Array Value} {tm : Bool} (hb : b.kind ≠ .early) (g0 : o0.guard = none) (g1 : o1.guard = none) (g2 : o2.guard = none)
    (h0 : (execOp a.eval o0).run P w = .ok (.value v0) w) (h1 : (execOp (a.put o0.dst v0).eval o1).run P w = .ok (.value v1) w) (h2 : o2.op = .send xc xv)
    (hc : ((a.put o0.dst v0).put o1.dst v1).eval xc = .chan (some c)) (hv : ((a.put o0.dst v0).put o1.dst v1).eval xv = v) (hch : w.heap[c]? = some (.chan cap buf false s r tm)) (hroom : buf.size < cap)
    (h : LoneTo P Q (G (b.at (((a.put o0.dst v0).put o1.dst v1).put o2.dst undef) k) cs) (w.setChan c cap (buf.push v) false (s + 1) r tm)) :
    LoneTo P Q (G (b.at a (.code (.region id #[o0, o1, o2] false) :: k)) cs) w := by
  refine .step (step_solo_go rfl stepG_region) ?_
  show LoneTo P Q (G (b.at a (.inRegion #[o0, o1, o2] [0, 1, 2] :: k)) cs) w
  refine .step (step_solo_go rfl (stepG_value (o := o0) rfl (by simp [Region.wanted, g0]) hb h0)) ?_
  refine .step (step_solo_go rfl (stepG_value (o := o1) rfl (by simp [Region.wanted, g1]) hb h1)) ?_
  refine .step (step_lone_send_room (c := c) (cap := cap) (buf := buf) (s := s) (r := r) (tm := tm) (v := v) (z' := .tuple #[]) (w₁ := w) (stepG_comm (o := o2) (cases := #[scase c v (.tuple #[])]) (blocking := true) (shape := .send) (w' := w) rfl (by simp [Region.wanted, g2]) hb (by simp [execOp, h2, hc, hv, scase])) hch hroom) ?_
  rw [Frame.finish_at]
  refine .step (step_solo_go rfl stepG_region_end) ?_
  exact h
end
end Go.Proofs.YtndlmgocldckfaaGreat

namespace Go.Proofs.YtndlmgocldckfaaGreat
open Go.RowKit Go.Conc
set_option linter.unusedVariables false
set_option linter.unusedSimpArgs false

/-- So many steps, at most. -/
def runF (ks : List (List Ins)) (draws : List Int) (horizon : Int) : Nat → KS → KS × List Rec × Int
  | 0, s => (s, [], 0)
  | n + 1, s => match stepF ks draws horizon s with
    | (s', some r, _) => match runF ks draws horizon n s' with
      | (s'', rs, why) => (s'', r :: rs, why)
    | (_, none, why) => (s, [], why)

/-- The loop of a function's code. -/
def firstLoop : Code → Option Code
  | .loop c => some c
  | .seq a b => match firstLoop a with
    | some c => some c
    | none => firstLoop b
  | .block _ c => firstLoop c
  | .scope c => firstLoop c
  | .cond _ a b => match firstLoop a with
    | some c => some c
    | none => firstLoop b
  | _ => none

abbrev msBase : Frame := { (default : Frame) with fn := 89, kind := .normal }

section
variable {R : Nat → Prop} {base base' : Nat} {kb qb mb sqb smb : Nat} {ov sov : Value} {ents : Int} {ks : List (List Ins)} {draws : List Int} {s s2 : KS} {qx : List Ev} {horizon : Int} {w : World} {why : Int} {r : Rec}
theorem step_stop (h : KerP R base w kb qb mb ov ents ks draws s)
    (hs : QueP base' w sqb smb sov qx) (hbes : Beside R kb qb mb sqb smb ov sov) (hbase : base ≤ w.heap.size) (hbase' : base' ≤ w.heap.size) (hok : KOk ents ks.length draws s) (hents : ents ≤ 8) (hk8 : ks.length ≤ 8)
    (hcode : ∀ l ∈ ks, l.length ≤ 16 ∧ ∀ x ∈ l, mayF ents ks.length x.op x.a x.b x.c = true) (hd : ∀ d ∈ draws, 0 ≤ d ∧ d ≤ 1000000000) (hF : stepF ks draws horizon s = (s2, none, why)) :
    Calls Tryz.prog 116 #[.pointer (some ⟨kb, 0, none⟩), .int .i64 horizon, .pointer (some ⟨sqb, 0, none⟩)] w fun e' w' => e' = .returned (.tuple #[rec0, .int .i64 why]) ∧ why ≠ 0 ∧ Only (Both kb qb mb sqb smb ov sov) w w' ∧ ∃ ov' sov' qx', Moved w ov ov' ∧ Moved w sov sov' ∧ QueP base' w' sqb smb sov' qx' ∧ Beside R kb qb mb sqb smb ov' sov' ∧ KerP R base w' kb qb mb ov' ents ks draws s := by
  refine (step_any kb qb mb sqb smb ov sov ents ks draws s qx horizon w h hs hbes hbase hbase' hok hents hk8 hcode hd).mono ?_
  rintro e' w' ⟨ov', sov', qx', h1, h2, h3, h4, h5, h6, h7, h8⟩
  rw [hF] at h6 h7 h8
  rcases h8 with ⟨a1, a2, a3, a4⟩ | ⟨a1, tv, r, a2, _⟩
  · simp only at a1 a2 a3 a4 h7
    rw [a3] at h7
    exact ⟨a4, a1, h1, ov', sov', qx', h2, h3, h4, h5, h7⟩
  · simp at a2
theorem step_made (h : KerP R base w kb qb mb ov ents ks draws s)
    (hs : QueP base' w sqb smb sov qx) (hbes : Beside R kb qb mb sqb smb ov sov) (hbase : base ≤ w.heap.size) (hbase' : base' ≤ w.heap.size) (hok : KOk ents ks.length draws s) (hents : ents ≤ 8) (hk8 : ks.length ≤ 8)
    (hcode : ∀ l ∈ ks, l.length ≤ 16 ∧ ∀ x ∈ l, mayF ents ks.length x.op x.a x.b x.c = true) (hd : ∀ d ∈ draws, 0 ≤ d ∧ d ≤ 1000000000) (hF : stepF ks draws horizon s = (s2, some r, why)) :
    Calls Tryz.prog 116 #[.pointer (some ⟨kb, 0, none⟩), .int .i64 horizon, .pointer (some ⟨sqb, 0, none⟩)] w fun e' w' => ∃ tsa tsc, e' = .returned (.tuple #[.agg #[.int .i64 r.e.number, .int .i64 r.e.time, .int .i64 r.e.kind, .int .i64 r.e.entity, .slice tsa r.told.length tsc], .int .i64 0]) ∧
      Only (Both kb qb mb sqb smb ov sov) w w' ∧ w'.ownsRow w.heap.size 3 1 (.slice tsa r.told.length tsc) r.told.length (ints r.told) ∧ ∃ ov' sov' qx', Moved w ov ov' ∧ Moved w sov sov' ∧ QueP base' w' sqb smb sov' qx' ∧ Beside R kb qb mb sqb smb ov' sov' ∧ KOk ents ks.length draws s2 ∧ KerP R base w' kb qb mb ov' ents ks draws s2 ∧ ∀ b, some b = (Value.slice tsa r.told.length tsc).ownBlock → ¬ Both kb qb mb sqb smb ov' sov' b := by
  refine (step_any kb qb mb sqb smb ov sov ents ks draws s qx horizon w h hs hbes hbase hbase' hok hents hk8 hcode hd).mono ?_
  rintro e' w' ⟨ov', sov', qx', h1, h2, h3, h4, h5, h6, h7, h8⟩
  rw [hF] at h6 h7 h8
  rcases h8 with ⟨a1, a2, a3, a4⟩ | ⟨a1, tv, r', a2, a3, a4, a5⟩
  · simp at a2
  · simp only [Option.some.injEq] at a2
    subst a2
    obtain ⟨tsa, tsc, rfl⟩ := owns_formA a4
    exact ⟨tsa, tsc, a3, h1, a4, ov', sov', qx', h2, h3, h4, h5, h6, h7, a5⟩
end

/-- The block in which what a record told lies. -/
def rb (v : Value) : Option Nat := match v with | .agg cs => (cs.getD 4 undef).ownBlock | _ => none

/-- In the midst of a run: i steps are made. -/
structure MsInv (R : Nat → Prop) (base : Nat) (w wr : World) (kb qb mb c sqb smb : Nat) (ov : Value) (ents : Int) (ks : List (List Ins)) (draws : List Int) (n i : Nat) (st : KS) (ov' sov' : Value) (buf : Array Value) (recs : List Rec) : Prop where
  only : Only (fun b => KSet kb qb mb ov b ∨ b = c) w wr
  moved : Moved w ov ov'
  ker : KerP R base wr kb qb mb ov' ents ks draws st
  ok : KOk ents ks.length draws st
  spare : ∃ qx, QueP w.heap.size wr sqb smb sov' qx
  snew : ∀ b, QSet sqb smb sov' b → w.heap.size ≤ b
  bes : Beside R kb qb mb sqb smb ov' sov'
  chan : wr.heap[c]? = some (.chan n buf false i 0 false)
  size : buf.size = i
  len : recs.length = i
  recd : ∀ (j : Nat) v r, buf[j]? = some v → recs[j]? = some r → ∃ sa sc, v = recV r.e (.slice sa r.told.length sc) ∧ wr.ownsRow w.heap.size 3 1 (.slice sa r.told.length sc) r.told.length (ints r.told)
  rsep : ∀ (j : Nat) v b, buf[j]? = some v → some b = rb v → ¬ KSet kb qb mb ov' b ∧ ¬ QSet sqb smb sov' b ∧ b ≠ c ∧ b < wr.heap.size
  apart : ∀ (j k : Nat) v v' b, buf[j]? = some v → buf[k]? = some v' → some b = rb v → some b = rb v' → j = k
  ck : ¬ KSet kb qb mb ov' c
  cl : c < w.heap.size
  cr : ¬ R c

section
variable {R : Nat → Prop} {base : Nat} {w wr w2 : World} {kb qb mb c sqb smb n i : Nat} {ov ov' sov' ov2 sov2 : Value} {ents : Int} {ks : List (List Ins)} {draws : List Int} {st st2 : KS} {buf : Array Value} {recs : List Rec} {qx : List Ev}
theorem MsInv.after (hI : MsInv R base w wr kb qb mb c sqb smb ov ents ks draws n i st ov' sov' buf recs) (ho : Only (Both kb qb mb sqb smb ov' sov') wr w2) (hm : Moved wr ov' ov2) (hms : Moved wr sov' sov2) (hq : QueP w.heap.size w2 sqb smb sov2 qx) (hb : Beside R kb qb mb sqb smb ov2 sov2)
    (hk : KerP R base w2 kb qb mb ov2 ents ks draws st2) (hok : KOk ents ks.length draws st2) : MsInv R base w w2 kb qb mb c sqb smb ov ents ks draws n i st2 ov2 sov2 buf recs := by
  have hz := hI.only.size
  have hz2 := ho.size
  have hcl := hI.cl
  have hnQ : ∀ b, b < wr.heap.size → ¬ QSet sqb smb sov' b → ¬ QSet sqb smb sov2 b := by
    rintro b hb hn (rfl | rfl | hc)
    · exact hn (.inl rfl)
    · exact hn (.inr (.inl rfl))
    · rcases hms with e | ⟨g, e, hg⟩
      · exact hn (.inr (.inr (hc.trans e)))
      · rw [e] at hc; simp at hc; omega
  have hcQ : ¬ QSet sqb smb sov' c := fun hc => by have := hI.snew c hc; omega
  refine ⟨?_, hI.moved.trans hm hz, hk, hok, ⟨qx, hq⟩, ?_, hb, ?_, hI.size, hI.len, ?_, ?_, hI.apart, kset_moved hm (by omega) hI.ck, hI.cl, hI.cr⟩
  · refine ⟨ho.os.trans hI.only.os, ho.tape.trans hI.only.tape, ho.output.trans hI.only.output, by omega, ?_⟩
    intro k hk' hn
    rw [ho.block k (by omega) ?_, hI.only.block k hk' hn]
    rintro (hc | hc)
    · exact kset_moved hI.moved hk' (fun h => hn (.inl h)) hc
    · have := hI.snew k hc; omega
  · rintro b (rfl | rfl | hc)
    · exact hI.snew _ (.inl rfl)
    · exact hI.snew _ (.inr (.inl rfl))
    · rcases hms with e | ⟨g, e, hg⟩
      · exact hI.snew b (.inr (.inr (hc.trans e)))
      · rw [e] at hc; simp at hc; omega
  · rw [ho.block c (by omega) (fun hc => by rcases hc with hc | hc; exact hI.ck hc; exact hcQ hc)]; exact hI.chan
  · intro j v r hv hr
    obtain ⟨sa, sc, e1, e2⟩ := hI.recd j v r hv hr
    refine ⟨sa, sc, e1, owns_only e2 ho (fun b hb hc => ?_)⟩
    have hs := hI.rsep j v b hv (by rw [e1]; exact hb)
    rcases hc with hc | hc
    · exact hs.1 hc
    · exact hs.2.1 hc
  · intro j v b hv hbv
    obtain ⟨s1, s2, s3, s4⟩ := hI.rsep j v b hv hbv
    exact ⟨kset_moved hm s4 s1, hnQ b s4 s2, s3, by omega⟩
theorem MsInv.below (hI : MsInv R base w wr kb qb mb c sqb smb ov ents ks draws n i st ov' sov' buf recs) (hb : Below wr.heap.size wr w2) : MsInv R base w w2 kb qb mb c sqb smb ov ents ks draws n i st ov' sov' buf recs := by
  obtain ⟨qx, hq⟩ := hI.spare
  exact hI.after (Only.new hb) (.inl rfl) (.inl rfl) (hq.below hb) hI.bes (hI.ker.below hb) hI.ok
theorem MsInv.sent {r : Rec} {sa : Option Addr} {sc lo : Nat} (hI : MsInv R base w wr kb qb mb c sqb smb ov ents ks draws n i st ov' sov' buf recs) (hown : wr.ownsRow w.heap.size 3 1 (.slice sa r.told.length sc) r.told.length (ints r.told))
    (hsep : ∀ b, some b = (Value.slice sa r.told.length sc).ownBlock → ¬ Both kb qb mb sqb smb ov' sov' b ∧ lo ≤ b ∧ b < wr.heap.size) (hlo : ∀ (j : Nat) v b, buf[j]? = some v → some b = rb v → b < lo) (hcl : c < lo) :
    MsInv R base w (wr.setChan c n (buf.push (recV r.e (.slice sa r.told.length sc))) false (i + 1) 0 false) kb qb mb c sqb smb ov ents ks draws n (i + 1) st ov' sov' (buf.push (recV r.e (.slice sa r.told.length sc))) (recs ++ [r]) := by
  have hz := hI.only.size
  have hcw := hI.cl
  have ho : Only (· = c) wr (wr.setChan c n (buf.push (recV r.e (.slice sa r.told.length sc))) false (i + 1) 0 false) := ⟨rfl, rfl, rfl, by simp [World.setChan], fun k hk hn => by simp only [World.setChan]; rw [Array.getElem?_setIfInBounds_ne (fun e => hn e.symm)]⟩
  have hch := heap_setChan wr c n (buf.push (recV r.e (.slice sa r.told.length sc))) false (i + 1) 0 false (by omega)
  have hsz := size_setChan wr c n (buf.push (recV r.e (.slice sa r.told.length sc))) false (i + 1) 0 false
  obtain ⟨qx, hq⟩ := hI.spare
  have hcQ : ¬ QSet sqb smb sov' c := fun hc => by have := hI.snew c hc; omega
  have hget : ∀ (j : Nat) v, (buf.push (recV r.e (.slice sa r.told.length sc)))[j]? = some v → (buf[j]? = some v ∧ j < i) ∨ (j = i ∧ v = recV r.e (.slice sa r.told.length sc)) := by
    intro j v hv
    rw [Array.getElem?_push] at hv
    split at hv
    · rename_i hj
      rw [hI.size] at hj
      simp at hv
      exact .inr ⟨hj, hv.symm⟩
    · have := (Array.getElem?_eq_some_iff.1 hv).1
      rw [hI.size] at this
      exact .inl ⟨hv, this⟩
  generalize wr.setChan c n (buf.push (recV r.e (.slice sa r.told.length sc))) false (i + 1) 0 false = W at ho hch hsz
  refine ⟨?_, hI.moved, hI.ker.only ho (fun b hb hc => by subst hc; exact hI.ck hb) (fun b hb hc => by subst hc; exact hI.cr hb), hI.ok, ⟨qx, hq.only ho (fun b hb hc => by subst hc; exact hcQ hb)⟩, hI.snew, hI.bes, hch, by simp [hI.size], by simp [hI.len], ?_, ?_, ?_, hI.ck, hI.cl, hI.cr⟩
  · refine ⟨ho.os.trans hI.only.os, ho.tape.trans hI.only.tape, ho.output.trans hI.only.output, by omega, ?_⟩
    intro k hk hn
    rw [ho.block k (by omega) (fun e => hn (.inr e)), hI.only.block k hk hn]
  · intro j v r' hv hr
    rcases hget j v hv with ⟨h1, h2⟩ | ⟨rfl, rfl⟩
    · rw [List.getElem?_append_left (by rw [hI.len]; exact h2)] at hr
      obtain ⟨sa', sc', e1, e2⟩ := hI.recd j v r' h1 hr
      exact ⟨sa', sc', e1, owns_only e2 ho (fun b hb hc => (hI.rsep j v b h1 (by rw [e1]; exact hb)).2.2.1 hc)⟩
    · rw [List.getElem?_append_right (by rw [hI.len]; omega), hI.len] at hr
      simp at hr
      subst hr
      exact ⟨sa, sc, rfl, owns_only hown ho (fun b hb hc => by have := (hsep b hb).2.1; omega)⟩
  · intro j v b hv hbv
    rcases hget j v hv with ⟨h1, h2⟩ | ⟨rfl, rfl⟩
    · obtain ⟨s1, s2, s3, s4⟩ := hI.rsep j v b h1 hbv
      exact ⟨s1, s2, s3, by omega⟩
    · obtain ⟨s1, s2, s3⟩ := hsep b hbv
      exact ⟨fun hc => s1 (.inl hc), fun hc => s1 (.inr hc), by omega, by omega⟩
  · intro j k v v' b hv hv' hb hb'
    rcases hget j v hv with ⟨h1, h2⟩ | ⟨rfl, rfl⟩ <;> rcases hget k v' hv' with ⟨h3, h4⟩ | ⟨rfl, rfl⟩
    · exact hI.apart j k v v' b h1 h3 hb hb'
    · have := hlo j v b h1 hb
      have := (hsep b hb').2.1
      omega
    · have := hlo k v' b h3 hb'
      have := (hsep b hb).2.1
      omega
    · rfl
end

set_option maxHeartbeats 4000000 in
set_option maxRecDepth 1000000 in
theorem ms_round {R : Nat → Prop} {base : Nat} {w : World} {kb qb mb c sqb smb n : Nat} {ov : Value} {ents : Int} {ks : List (List Ins)} {draws : List Int} (horizon : Int) (hents : ents ≤ 8) (hk8 : ks.length ≤ 8) (hn : n ≤ 1000) (hbase : base ≤ w.heap.size)
    (hcode : ∀ l ∈ ks, l.length ≤ 16 ∧ ∀ x ∈ l, mayF ents ks.length x.op x.a x.b x.c = true) (hd : ∀ d ∈ draws, 0 ≤ d ∧ d ≤ 1000000000) (cs : List Frame) (Q : Goroutine → World → Prop) (d : Deferred) (k : List Item) (m : Nat) :
    ∀ (i : Nat) (st : KS) (ov' sov' : Value) (buf : Array Value) (recs : List Rec) (wr : World) (x8 x10 x11 y16 y17 y18 y19 y20 y21 y22 y23 y24 y25 y26 y27 y28 y29 : Value), i + m = n → MsInv R base w wr kb qb mb c sqb smb ov ents ks draws n i st ov' sov' buf recs →
      (∀ (why : Int) (st2 : KS) (rs : List Rec) (i2 : Int) (ov2 sov2 : Value) (buf2 : Array Value) (w2 : World) (x10 x11 y16 y17 y18 y19 y20 y21 y22 y23 y24 y25 y26 y27 y28 y29 : Value) (k2 : List Item), runF ks draws horizon m st = (st2, rs, why) → MsInv R base w w2 kb qb mb c sqb smb ov ents ks draws n (recs ++ rs).length st2 ov2 sov2 buf2 (recs ++ rs) → why ≠ 0 →
        LoneTo Tryz.prog Q (G { msBase.at ⟨#[.pointer (some ⟨kb, 0, none⟩), .int .i64 n, .int .i64 horizon, .chan (some c), undef, undef, undef, undef, .int .i64 why, .pointer (some ⟨sqb, 0, none⟩), x10, x11, .chan (some c), .pointer (some ⟨sqb, 0, none⟩), .int .i64 n, .int .i64 i2, y16, y17, y18, y19, y20, y21, y22, y23, y24, y25, y26, y27, y28, y29], [d]⟩ (.code .ret :: k2) with mode := .returning } cs) w2) →
      (∀ (st2 : KS) (rs : List Rec) (i2 : Int) (ov2 sov2 : Value) (buf2 : Array Value) (w2 : World) (x8 x10 x11 y16 y17 y18 y19 y20 y21 y22 y23 y24 y25 y26 y27 y28 y29 : Value), runF ks draws horizon m st = (st2, rs, 0) → MsInv R base w w2 kb qb mb c sqb smb ov ents ks draws n (recs ++ rs).length st2 ov2 sov2 buf2 (recs ++ rs) →
        LoneTo Tryz.prog Q (G (msBase.at ⟨#[.pointer (some ⟨kb, 0, none⟩), .int .i64 n, .int .i64 horizon, .chan (some c), undef, undef, undef, undef, x8, .pointer (some ⟨sqb, 0, none⟩), x10, x11, .chan (some c), .pointer (some ⟨sqb, 0, none⟩), .int .i64 n, .int .i64 i2, y16, y17, y18, y19, y20, y21, y22, y23, y24, y25, y26, y27, y28, y29], [d]⟩ k) cs) w2) →
      LoneTo Tryz.prog Q (G (msBase.at ⟨#[.pointer (some ⟨kb, 0, none⟩), .int .i64 n, .int .i64 horizon, .chan (some c), undef, undef, undef, undef, x8, .pointer (some ⟨sqb, 0, none⟩), x10, x11, .chan (some c), .pointer (some ⟨sqb, 0, none⟩), .int .i64 n, .int .i64 (i : Int), y16, y17, y18, y19, y20, y21, y22, y23, y24, y25, y26, y27, y28, y29], [d]⟩ (.code ((Tryz.f89.body.bind firstLoop).getD .skip) :: .inLoop ((Tryz.f89.body.bind firstLoop).getD .skip) :: .inBlock 0 :: k)) cs) wr := by
  induction m with
  | zero =>
    intro i st ov' sov' buf recs wr x8 x10 x11 y16 y17 y18 y19 y20 y21 y22 y23 y24 y25 y26 y27 y28 y29 him hI hret hend
    have hin : decide (i < n) = false := by simp; omega
    have hlen := hI.len
    refine lone_seq ?_
    refine lone_code ?_
    go_wp2
    refine lone_seq ?_
    refine lone_cond (t := decide (i < n)) (by first | rfl | (simp only [Act.eval, hin]; rfl)) ?_
    rw [hin]
    simp only [Bool.false_eq_true, if_false]
    refine lone_exit rfl ?_
    refine hend st [] _ ov' sov' buf wr _ _ _ _ _ _ _ _ _ _ _ _ _ _ _ _ _ rfl ?_
    rw [List.append_nil, hlen]
    exact hI
  | succ m ih =>
    intro i st ov' sov' buf recs wr x8 x10 x11 y16 y17 y18 y19 y20 y21 y22 y23 y24 y25 y26 y27 y28 y29 him hI hret hend
    have hin : decide (i < n) = true := by simp; omega
    have hlen := hI.len
    obtain ⟨qx, hsp⟩ := hI.spare
    have hzr := hI.only.size
    refine lone_seq ?_
    refine lone_code ?_
    go_wp2
    refine lone_seq ?_
    refine lone_cond (t := decide (i < n)) (by first | rfl | (simp only [Act.eval, hin]; rfl)) ?_
    rw [hin]
    simp only [if_true]
    refine lone_skip ?_
    refine lone_seq ?_
    refine lone_block ?_
    refine lone_seq ?_
    refine lone_code ?_
    rcases hF : stepF ks draws horizon st with ⟨s2, _ | r, why⟩
    · go_wp2_with (go_at_call 116; refine (step_stop hI.ker hsp hI.bes (by omega) (by omega) hI.ok hents hk8 hcode hd hF).mono ?_; rintro e' w2 ⟨rfl, hw0, ho2, ov2, sov2, qx2, hm2, hms2, hq2, hb2, hk2⟩; simp only [rec0])
      have hw1 : (why != 0) = true := by simpa using hw0
      refine lone_seq ?_
      refine lone_seq ?_
      refine lone_code ?_
      go_wp2
      refine lone_cond (t := true) (by simp [Act.eval, hw1]) ?_
      simp only [if_true]
      refine lone_seq ?_
      refine lone_code ?_
      go_wp2
      refine LoneTo.step (step_solo_go rfl stepG_ret') ?_
      refine hret why st [] _ ov2 sov2 buf _ _ _ _ _ _ _ _ _ _ _ _ _ _ _ _ _ _ ?_ ?_ hw0
      · simp only [runF, hF]
      · rw [List.append_nil, hlen]
        exact (hI.after ho2 hm2 hms2 hq2 hb2 hk2 hI.ok).below ((Below.refl _ _).alloc (Nat.le_refl _) _)
    · have hr0 : why = 0 := by
        have := hF
        unfold stepF at this
        split at this
        · simp at this
        · split at this
          · simp at this
          · simp only at this
            split at this
            · simp at this; exact this.2.2.symm
            · simp at this
      subst hr0
      go_wp2_with (go_at_call 116; refine (step_made hI.ker hsp hI.bes (by omega) (by omega) hI.ok hents hk8 hcode hd hF).mono ?_; rintro e' w2 ⟨tsa, tsc, rfl, ho2, hown2, ov2, sov2, qx2, hm2, hms2, hq2, hb2, hok2, hk2, hsep2⟩)
      have hI2 := hI.after ho2 hm2 hms2 hq2 hb2 hk2 hok2
      have hz2 := ho2.size
      obtain ⟨W3, hW3⟩ : ∃ W3, W3 = w2.alloc (.cells #[.int .i64 r.e.number, .int .i64 r.e.time, .int .i64 r.e.kind, .int .i64 r.e.entity, .slice tsa r.told.length tsc] 46) := ⟨_, rfl⟩
      have hb3 : Below w2.heap.size w2 W3 := by rw [hW3]; exact (Below.refl _ _).alloc (Nat.le_refl _) _
      have hz3 : W3.heap.size = w2.heap.size + 1 := by rw [hW3]; simp
      have z : ∀ (j : Nat) (v : Value), #[Value.int .i64 r.e.number, .int .i64 r.e.time, .int .i64 r.e.kind, .int .i64 r.e.entity, .slice tsa r.told.length tsc][j]? = some v → W3.cell? ⟨w2.heap.size, j, none⟩ = some v := by
        intro j v hv
        rw [hW3, World.cell?_alloc_at _ _ _ _ rfl]; exact hv
      have z0 := z 0 _ rfl
      have z1 := z 1 _ rfl
      have z2 := z 2 _ rfl
      have z3 := z 3 _ rfl
      have z4 := z 4 _ rfl
      rw [← hW3]
      have hI3 := hI2.below hb3
      clear hW3 z
      refine lone_seq ?_
      refine lone_seq ?_
      refine lone_code ?_
      go_wp2
      refine lone_cond (t := false) (by simp [Act.eval]) ?_
      simp only [Bool.false_eq_true, if_false]
      refine lone_skip ?_
      have hload : ∀ A : Act, A.eval (.tmp 10) = .pointer (some ⟨w2.heap.size, 0, none⟩) → (Instr.loadAt 46 (A.eval (.tmp 10))).run Tryz.prog W3 = .ok (recV r.e (.slice tsa r.told.length tsc)) W3 := by
        intro A hA
        rw [hA]
        simp [go_sem, z0, z1, z2, z3, z4, recV]
      refine lone_send (v0 := .chan (some c)) (v1 := recV r.e (.slice tsa r.told.length tsc)) (v := recV r.e (.slice tsa r.told.length tsc)) (c := c) (cap := n) (s := i) (r := 0) (buf := buf) (tm := false) (xc := .tmp 27) (xv := .tmp 28) (by simp) rfl rfl rfl ?_ ?_ rfl rfl rfl hI3.chan (by rw [hI3.size]; omega) ?_
      · simp [execOp, Act.eval]
      · simp [execOp, Act.eval, Act.put]
        have := hload ⟨#[.pointer (some ⟨kb, 0, none⟩), .int .i64 n, .int .i64 horizon, .chan (some c), undef, undef, undef, undef, x8, .pointer (some ⟨sqb, 0, none⟩), .pointer (some ⟨w2.heap.size, 0, none⟩)], []⟩ rfl
        simp [Act.eval] at this
        simp [this]
      · have htv : ∀ b, some b = (Value.slice tsa r.told.length tsc).ownBlock → wr.heap.size ≤ b ∧ b < w2.heap.size := fun b hb => hown2.lt b hb.symm
        have hown3 : W3.ownsRow w.heap.size 3 1 (.slice tsa r.told.length tsc) r.told.length (ints r.told) := by
          obtain ⟨h1, h2⟩ := owns_only hown2 (Only.new (S := fun _ => False) hb3) (by simp)
          refine ⟨h1, ?_⟩
          rcases h2 with h2 | ⟨g, cap, cur, hv, hg, rr⟩
          · exact .inl h2
          · exact .inr ⟨g, cap, cur, hv, by omega, rr⟩
        have hcl := hI.cl
        have hI4 := hI3.sent (r := r) (sa := tsa) (sc := tsc) (lo := wr.heap.size) hown3 (fun b hb => ⟨hsep2 b hb, (htv b hb).1, by have := (htv b hb).2; omega⟩) (fun j v b hv hb => (hI.rsep j v b hv hb).2.2.2) (by omega)
        generalize W3.setChan c n (buf.push (recV r.e (.slice tsa r.told.length tsc))) false (i + 1) 0 false = W4 at hI4 ⊢
        refine lone_inBlock ?_
        refine lone_code ?_
        simp only [Act.put]
        go_wp2
        refine lone_inLoop ?_
        refine ih (i + 1) s2 ov2 sov2 (buf.push (recV r.e (.slice tsa r.told.length tsc))) (recs ++ [r]) W4 _ _ _ _ _ _ _ _ _ _ _ _ _ _ _ _ _ (by omega) hI4 ?_ ?_
        · intro why st2 rs i2 ov3 sov3 buf3 w3 x10 x11 y16 y17 y18 y19 y20 y21 y22 y23 y24 y25 y26 y27 y28 y29 k2 hR hI5 hw
          refine hret why st2 (r :: rs) i2 ov3 sov3 buf3 w3 x10 x11 y16 y17 y18 y19 y20 y21 y22 y23 y24 y25 y26 y27 y28 y29 k2 ?_ ?_ hw
          · simp only [runF, hF, hR]
          · simpa using hI5
        · intro st2 rs i2 ov3 sov3 buf3 w3 x8 x10 x11 y16 y17 y18 y19 y20 y21 y22 y23 y24 y25 y26 y27 y28 y29 hR hI5
          refine hend st2 (r :: rs) i2 ov3 sov3 buf3 w3 x8 x10 x11 y16 y17 y18 y19 y20 y21 y22 y23 y24 y25 y26 y27 y28 y29 ?_ ?_
          · simp only [runF, hF, hR]
          · simpa using hI5
end Go.Proofs.YtndlmgocldckfaaGreat

namespace Go.Proofs.YtndlmgocldckfaaGreat
open Go.RowKit
set_option linter.unusedVariables false
set_option linter.unusedSimpArgs false

/-! What a run does, in plain lists: times do not fall, numbers of one time rise, none comes twice, why it ended. -/

def BefE (e x : Ev) : Prop := e.number ≠ x.number ∧ (e.time < x.time ∨ (e.time = x.time ∧ e.number < x.number))

/-- An event that has happened, and what may come behind it. -/
structure Past (e : Ev) (s : KS) : Prop where
  time : e.time ≤ s.clock
  num : e.number < s.next
  evs : ∀ x ∈ s.q, BefE e x

structure QOk (s : KS) : Prop where
  sorted : Sorted s.q
  dist : Distinct s.q

theorem doI_shape (draws : List Int) (E : Nat) (x : Ins) (s : KS) : (doI draws E x s).1.clock = s.clock ∧ s.taken ≤ (doI draws E x s).1.taken ∧ (doI draws E x s).1.taken ≤ s.taken + 1 ∧ (doI draws E x s).2.1.length ≤ 1 ∧
    ((doI draws E x s).2.2 = 0 ∨ (3 ≤ (doI draws E x s).2.2 ∧ (doI draws E x s).2.2 ≤ 5)) ∧ ((doI draws E x s).2.2 = 5 → draws.length ≤ s.taken) ∧
    (((doI draws E x s).1.q = s.q ∧ (doI draws E x s).1.next = s.next) ∨ (∃ v, (doI draws E x s).1.q = outF v s.q ∧ (doI draws E x s).1.next = s.next) ∨
      (∃ t k n, s.clock ≤ t ∧ (doI draws E x s).1.q = insF ⟨t, s.next, k, n⟩ s.q ∧ (doI draws E x s).1.next = s.next + 1)) := by
  unfold doI
  simp only
  by_cases o1 : x.op = 1
  · rw [if_pos o1]; exact ⟨rfl, by simp, by simp, by simp, by simp, by simp, .inl ⟨rfl, rfl⟩⟩
  rw [if_neg o1]
  by_cases o2 : x.op = 2
  · rw [if_pos o2]; exact ⟨rfl, by simp, by simp, by simp, by simp, by simp, .inl ⟨rfl, rfl⟩⟩
  rw [if_neg o2]
  by_cases o3 : x.op = 3
  · rw [if_pos o3]; exact ⟨rfl, by simp, by simp, by simp, by simp, by simp, .inl ⟨rfl, rfl⟩⟩
  rw [if_neg o3]
  by_cases o4 : x.op = 4
  · rw [if_pos o4]
    rcases hd : draws[s.taken]? with _ | d
    · exact ⟨rfl, by simp, by simp, by simp, by simp, fun _ => by simpa using hd, .inl ⟨rfl, rfl⟩⟩
    · exact ⟨rfl, by simp, by simp, by simp, by simp, by simp, .inl ⟨rfl, rfl⟩⟩
  rw [if_neg o4]
  by_cases o6 : x.op = 6
  · rw [if_pos o6]
    split
    · exact ⟨rfl, by simp, by simp, by simp, by simp, by simp, .inl ⟨rfl, rfl⟩⟩
    · split
      · exact ⟨rfl, by simp, by simp, by simp, by simp, by simp, .inl ⟨rfl, rfl⟩⟩
      · exact ⟨rfl, by simp, by simp, by simp, by simp, by simp, .inr (.inr ⟨_, _, _, by omega, rfl, rfl⟩)⟩
  rw [if_neg o6]
  by_cases o7 : x.op = 7
  · rw [if_pos o7]; exact ⟨rfl, by simp, by simp, by simp, by simp, by simp, .inr (.inl ⟨_, rfl, rfl⟩)⟩
  rw [if_neg o7]
  exact ⟨rfl, by simp, by simp, by simp, by simp, by simp, .inl ⟨rfl, rfl⟩⟩

theorem execF_indN {draws : List Int} {E : Nat} (M : Ins → Prop) (P : KS → Prop) (hstep : ∀ x s, M x → x.op ≠ 5 → P s → P (doI draws E x s).1) : ∀ (n : Nat) (l : List Ins) (s : KS) (told : List Int), l.length ≤ n → (∀ x ∈ l, M x) → P s → P (execF draws E l s told).1
  | _, [], s, told, hn, hm, h => by rw [execF_nil]; exact h
  | 0, x :: l, s, told, hn, hm, h => by simp at hn
  | n + 1, x :: l, s, told, hn, hm, h => by
    simp only [List.length_cons] at hn
    rw [execF_cons]
    by_cases h5 : x.op = 5
    · rw [if_pos h5]
      split
      · exact execF_indN M P hstep n (l.drop x.b.toNat) s told (by simp; omega) (fun y hy => hm y (List.mem_cons_of_mem _ (List.mem_of_mem_drop hy))) h
      · exact execF_indN M P hstep n l s told (by omega) (fun y hy => hm y (List.mem_cons_of_mem _ hy)) h
    · rw [if_neg h5]
      have h' := hstep x s (hm x (List.mem_cons_self ..)) h5 h
      rcases hd : doI draws E x s with ⟨s', t, why⟩
      rw [hd] at h'
      simp only
      split
      · exact execF_indN M P hstep n l s' _ (by omega) (fun y hy => hm y (List.mem_cons_of_mem _ hy)) h'
      · exact h'
theorem execF_ind {draws : List Int} {E : Nat} (M : Ins → Prop) (P : KS → Prop) (hstep : ∀ x s, M x → x.op ≠ 5 → P s → P (doI draws E x s).1) (l : List Ins) (s : KS) (told : List Int) (hm : ∀ x ∈ l, M x) (h : P s) : P (execF draws E l s told).1 :=
  execF_indN M P hstep l.length l s told (Nat.le_refl _) hm h

theorem execF_endsN {draws : List Int} {E : Nat} : ∀ (n : Nat) (l : List Ins) (s : KS) (told : List Int), l.length ≤ n → (execF draws E l s told).2.1.length ≤ told.length + l.length ∧ ((execF draws E l s told).2.2 = 0 ∨ (3 ≤ (execF draws E l s told).2.2 ∧ (execF draws E l s told).2.2 ≤ 5)) ∧ ((execF draws E l s told).2.2 = 5 → draws.length < s.taken + l.length)
  | _, [], s, told, hn => by rw [execF_nil]; simp
  | 0, x :: l, s, told, hn => by simp at hn
  | n + 1, x :: l, s, told, hn => by
    simp only [List.length_cons] at hn
    rw [execF_cons]
    by_cases h5 : x.op = 5
    · rw [if_pos h5]
      split
      · obtain ⟨h1, h2, h3⟩ := execF_endsN (draws := draws) (E := E) n (l.drop x.b.toNat) s told (by simp; omega)
        simp only [List.length_drop] at h1 h3
        exact ⟨by simp; omega, h2, fun h => by have := h3 h; simp; omega⟩
      · obtain ⟨h1, h2, h3⟩ := execF_endsN (draws := draws) (E := E) n l s told (by omega)
        exact ⟨by simp; omega, h2, fun h => by have := h3 h; simp; omega⟩
    · rw [if_neg h5]
      obtain ⟨_, _, d3, d4, d5, d6, _⟩ := doI_shape draws E x s
      rcases hd : doI draws E x s with ⟨s', t, why⟩
      rw [hd] at d3 d4 d5 d6
      simp only at d3 d4 d5 d6 ⊢
      split
      · obtain ⟨h1, h2, h3⟩ := execF_endsN (draws := draws) (E := E) n l s' (told ++ t) (by omega)
        simp only [List.length_append] at h1
        exact ⟨by simp; omega, h2, fun h => by have := h3 h; simp; omega⟩
      · exact ⟨by simp, d5, fun h => by have := d6 h; simp; omega⟩
theorem execF_ends {draws : List Int} {E : Nat} (l : List Ins) (s : KS) (told : List Int) : (execF draws E l s told).2.1.length ≤ told.length + l.length ∧ ((execF draws E l s told).2.2 = 0 ∨ (3 ≤ (execF draws E l s told).2.2 ∧ (execF draws E l s told).2.2 ≤ 5)) ∧ ((execF draws E l s told).2.2 = 5 → draws.length < s.taken + l.length) :=
  execF_endsN l.length l s told (Nat.le_refl _)

theorem doI_past {draws : List Int} {E : Nat} {x : Ins} {s : KS} {e : Ev} (h : Past e s) : Past e (doI draws E x s).1 := by
  obtain ⟨c, _, _, _, _, _, hq⟩ := doI_shape draws E x s
  rcases hq with ⟨hq, hn⟩ | ⟨v, hq, hn⟩ | ⟨t, k, n, ht, hq, hn⟩
  · exact ⟨by rw [c]; exact h.time, by rw [hn]; exact h.num, by rw [hq]; exact h.evs⟩
  · exact ⟨by rw [c]; exact h.time, by rw [hn]; exact h.num, fun y hy => by rw [hq] at hy; exact h.evs y ((outF_mem _ _ _).1 hy).1⟩
  · refine ⟨by rw [c]; exact h.time, by rw [hn]; have := h.num; omega, fun y hy => ?_⟩
    rw [hq] at hy
    rcases (insF_mem _ _ _).1 hy with rfl | hy
    · have := h.time
      have := h.num
      refine ⟨by simp; omega, ?_⟩
      simp
      omega
    · exact h.evs y hy

theorem doI_qok {draws : List Int} {E : Nat} {x : Ins} {s : KS} (h : QOk s) (hn : ∀ y ∈ s.q, y.number < s.next) : QOk (doI draws E x s).1 := by
  obtain ⟨c, _, _, _, _, _, hq⟩ := doI_shape draws E x s
  rcases hq with ⟨hq, _⟩ | ⟨v, hq, _⟩ | ⟨t, k, n, ht, hq, _⟩
  · exact ⟨by rw [hq]; exact h.sorted, by rw [hq]; exact h.dist⟩
  · exact ⟨by rw [hq]; exact outF_sorted h.sorted, by rw [hq]; exact outF_distinct h.dist⟩
  · have hne : ∀ y ∈ s.q, y.number ≠ s.next := fun y hy => by have := hn y hy; omega
    exact ⟨by rw [hq]; exact insF_sorted _ _ h.sorted hne, by rw [hq]; exact insF_distinct _ _ h.dist hne⟩

/-- All that a run keeps. -/
structure Fit (ents : Int) (ks : List (List Ins)) (draws : List Int) (s : KS) : Prop where
  ok : KOk ents ks.length draws s
  q : QOk s

def CodesOk (ents : Int) (ks : List (List Ins)) : Prop := ∀ l ∈ ks, l.length ≤ 16 ∧ ∀ x ∈ l, mayF ents ks.length x.op x.a x.b x.c = true
def DrawsOk (draws : List Int) : Prop := ∀ d ∈ draws, 0 ≤ d ∧ d ≤ 1000000000

section
variable {ents : Int} {ks : List (List Ins)} {draws : List Int} {s s' : KS} {e : Ev} {q : List Ev} {horizon : Int} {r : Rec} {why : Int}

theorem code_of (hc : CodesOk ents ks) (K : Nat) : (ks.getD K []).length ≤ 16 ∧ ∀ x ∈ ks.getD K [], mayF ents ks.length x.op x.a x.b x.c = true := by
  rcases h : ks[K]? with _ | l
  · simp [List.getD, h]
  · have := hc l (List.mem_of_getElem? h)
    simpa [List.getD, h] using this

theorem sorted_head (h : Sorted (e :: q)) (hd : Distinct (e :: q)) : ∀ x ∈ q, BefE e x := by
  intro x hx
  have h1 := (List.pairwise_cons.1 h).1 x hx
  have h2 := (List.pairwise_cons.1 hd).1 x hx
  refine ⟨h2, ?_⟩
  simpa [aheadF] using h1

/-- An event that was the first one has happened. -/
theorem happenF_fit (hc : CodesOk ents ks) (hd : DrawsOk draws) (h : Fit ents ks draws s) (hq : s.q = e :: q) :
    Fit ents ks draws (happenF ks draws e s).1 ∧ (happenF ks draws e s).1.clock = e.time ∧ Past e (happenF ks draws e s).1 ∧ (∀ p, Past p s → Past p (happenF ks draws e s).1) ∧ (happenF ks draws e s).2.1.length ≤ 16 ∧ ((happenF ks draws e s).2.2 = 0 ∨ (3 ≤ (happenF ks draws e s).2.2 ∧ (happenF ks draws e s).2.2 ≤ 5)) ∧ ((happenF ks draws e s).2.2 = 5 → draws.length < s.taken + 16) := by
  have hD : Distinct (e :: q) := hq ▸ h.q.dist
  have hS : Sorted (e :: q) := hq ▸ h.q.sorted
  have hout : outF e.number s.q = q := by rw [hq]; exact outF_head hD
  have hbef := sorted_head hS hD
  obtain ⟨hev1, hev2, hev3, hev4, hev5⟩ := h.ok.evs e (by rw [hq]; exact List.mem_cons_self ..)
  obtain ⟨hl, hm⟩ := code_of hc e.kind.toNat
  obtain ⟨k1, k2, k3, k4, k5, k6⟩ := h.ok
  unfold happenF
  rw [hout]
  have h0 : Fit ents ks draws { s with q := q, clock := e.time } := by
    refine ⟨⟨k1, ⟨by simp; omega, hev2⟩, k3, k4, ?_, ?_⟩, ⟨(List.pairwise_cons.1 hS).2, (List.pairwise_cons.1 hD).2⟩⟩
    · intro x hx
      have := k5 x (by rw [hq]; exact List.mem_cons_of_mem _ hx)
      have := (hbef x hx).2
      simp; omega
    · rw [hq] at k6; simp at k6 ⊢; omega
  obtain ⟨e1, e2, e3⟩ := execF_ends (draws := draws) (E := e.entity.toNat) (ks.getD e.kind.toNat []) { s with q := q, clock := e.time } []
  refine ⟨?_, ?_, ?_, ?_, ?_, e2, fun hh => ?_⟩
  · exact execF_ind (fun x => mayF ents ks.length x.op x.a x.b x.c = true) (fun st => Fit ents ks draws st)
      (fun x st hx h5 hst => ⟨doI_ok hst.ok hx h5 hd, doI_qok hst.q (fun y hy => (hst.ok.evs y hy).2.2.2.1)⟩) _ _ _ hm h0
  · exact execF_ind (fun _ => True) (fun st => st.clock = e.time) (fun x st _ _ hst => by rw [(doI_shape draws _ x st).1]; exact hst) _ _ _ (by simp) rfl
  · exact execF_ind (fun _ => True) (fun st => Past e st) (fun x st _ _ hst => doI_past hst) _ _ _ (by simp) ⟨Int.le_refl _, hev4, hbef⟩
  · intro p hp
    refine execF_ind (fun _ => True) (fun st => Past p st) (fun x st _ _ hst => doI_past hst) _ _ _ (by simp) ⟨?_, hp.num, fun x hx => hp.evs x (by rw [hq]; exact List.mem_cons_of_mem _ hx)⟩
    have := hp.time
    simp; omega
  · simp only [List.length_nil, Nat.zero_add] at e1; omega
  · have := e3 hh
    simp only at this; omega

theorem stepF_some (hs : stepF ks draws horizon s = (s', some r, why)) : ∃ q, s.q = r.e :: q ∧ r.e.time ≤ horizon ∧ why = 0 ∧ happenF ks draws r.e s = (s', r.told, 0) := by
  unfold stepF at hs
  split at hs
  · simp at hs
  · rename_i e q hq
    split at hs
    · simp at hs
    · rename_i hz
      rcases hh : happenF ks draws e s with ⟨t, told, w⟩
      rw [hh] at hs
      simp only at hs
      split at hs
      · rename_i hw
        simp only [Prod.mk.injEq, Option.some.injEq] at hs
        obtain ⟨rfl, rfl, rfl⟩ := hs
        exact ⟨q, hq, by simpa using hz, rfl, by simpa [hw] using hh⟩
      · simp at hs

theorem stepF_none (hc : CodesOk ents ks) (hd : DrawsOk draws) (h : Fit ents ks draws s) (hs : stepF ks draws horizon s = (s', none, why)) : s' = s ∧ (1 ≤ why ∧ why ≤ 5) ∧ (why = 1 → s.q = []) ∧ (why = 5 → draws.length < s.taken + 16) := by
  unfold stepF at hs
  split at hs
  · rename_i hq
    simp at hs
    obtain ⟨rfl, rfl⟩ := hs
    exact ⟨rfl, by simp, fun _ => hq, by simp⟩
  · rename_i e q hq
    split at hs
    · simp at hs
      obtain ⟨rfl, rfl⟩ := hs
      exact ⟨rfl, by simp, by simp, by simp⟩
    · have hh := happenF_fit hc hd h hq
      rcases he : happenF ks draws e s with ⟨t, told, w⟩
      rw [he] at hs hh
      simp only at hs hh
      split at hs
      · simp at hs
      · rename_i hw
        simp at hs
        obtain ⟨rfl, rfl⟩ := hs
        obtain ⟨_, _, _, _, _, h6, h7⟩ := hh
        exact ⟨rfl, by omega, fun h1 => by omega, h7⟩
end

section
variable {ents : Int} {ks : List (List Ins)} {draws : List Int}
/-- A whole run. -/
structure RunAll (ents : Int) (ks : List (List Ins)) (draws : List Int) (horizon : Int) (n : Nat) (s s' : KS) (rs : List Rec) (why : Int) : Prop where
  fit : Fit ents ks draws s'
  len : rs.length ≤ n
  ran : why = 0 ↔ rs.length = n
  whys : 0 ≤ why ∧ why ≤ 5
  empty : why = 1 → s'.q = []
  dry : why = 5 → draws.length < s'.taken + 16
  order : rs.Pairwise (fun a b => BefE a.e b.e)
  each : ∀ r ∈ rs, s.clock ≤ r.e.time ∧ r.e.time ≤ horizon ∧ 1 ≤ r.e.number ∧ r.told.length ≤ 16
  past : ∀ p, Past p s → Past p s' ∧ ∀ r ∈ rs, BefE p r.e
  clock : s'.clock = (rs.getLast?.map (fun r => r.e.time)).getD s.clock

theorem runF_all (hc : CodesOk ents ks) (hd : DrawsOk draws) (horizon : Int) : ∀ (n : Nat) (s : KS), Fit ents ks draws s →
    RunAll ents ks draws horizon n s (runF ks draws horizon n s).1 (runF ks draws horizon n s).2.1 (runF ks draws horizon n s).2.2
  | 0, s, h => by
    simp only [runF]
    exact ⟨h, by simp, by simp, by simp, by simp, by simp, by simp, by simp, fun p hp => ⟨hp, by simp⟩, by simp⟩
  | n + 1, s, h => by
    rcases hs : stepF ks draws horizon s with ⟨s1, _ | r, why⟩
    · obtain ⟨rfl, h2, h3, h4⟩ := stepF_none hc hd h hs
      have hF : runF ks draws horizon (n + 1) s1 = (s1, [], why) := by simp only [runF, hs]
      rw [hF]
      exact ⟨h, by simp, by simp; omega, by simp; omega, h3, h4, by simp, by simp, fun p hp => ⟨hp, by simp⟩, by simp⟩
    · obtain ⟨q, hq, hz, rfl, hh⟩ := stepF_some hs
      obtain ⟨f1, f2, f3, f4, f5, f6, f7⟩ := happenF_fit hc hd h hq
      rw [hh] at f1 f2 f3 f4 f5
      simp only at f1 f2 f3 f4 f5
      have ih := runF_all hc hd horizon n s1 f1
      have hev := h.ok.evs r.e (by rw [hq]; exact List.mem_cons_self ..)
      rcases hr : runF ks draws horizon n s1 with ⟨s2, rs, w⟩
      have hF : runF ks draws horizon (n + 1) s = (s2, r :: rs, w) := by simp only [runF, hs, hr]
      rw [hF]
      rw [hr] at ih
      obtain ⟨i1, i2, i3, i4, i5, i6, i7, i8, i9, i10⟩ := ih
      have hp3 := i9 r.e f3
      refine ⟨i1, by simpa using i2, by simpa using i3, i4, i5, i6, ?_, ?_, ?_, ?_⟩
      · exact List.pairwise_cons.2 ⟨fun x hx => hp3.2 x hx, i7⟩
      · intro x hx
        rcases List.mem_cons.1 hx with rfl | hx
        · exact ⟨hev.1, hz, hev.2.2.1, f5⟩
        · have := i8 x hx
          have := hev.1
          exact ⟨by omega, by omega, by omega, by omega⟩
      · intro p hp
        refine ⟨(i9 p (f4 p hp)).1, fun x hx => ?_⟩
        rcases List.mem_cons.1 hx with rfl | hx
        · exact hp.evs _ (by rw [hq]; exact List.mem_cons_self ..)
        · exact (i9 p (f4 p hp)).2 x hx
      · simp only at i10 ⊢
        rw [i10]
        rcases rs with _ | ⟨r2, rs⟩
        · simp [f2]
        · rw [List.getLast?_cons_cons]
          rcases hl : (r2 :: rs).getLast? with _ | z
          · simp at hl
          · rfl
end
end Go.Proofs.YtndlmgocldckfaaGreat

namespace Go.Proofs.YtndlmgocldckfaaGreat
open Go.RowKit
set_option linter.unusedVariables false
set_option linter.unusedSimpArgs false

def RegZ (ents : Int) (s : KS) : Prop := ∀ j : Nat, ents.toNat * 4 ≤ j → s.regs j = 0

theorem doI_regz {ents : Int} {nk : Nat} {draws : List Int} {E : Nat} {x : Ins} {s : KS} (h : RegZ ents s) (hx : mayF ents nk x.op x.a x.b x.c = true) (h5 : x.op ≠ 5) (hE : E < ents.toNat) : RegZ ents (doI draws E x s).1 := by
  have hput : ∀ (i : Nat) (v : Int), i < ents.toNat * 4 → RegZ ents { s with regs := putR s.regs i v } := by
    intro i v hi j hj
    simp only [putR]
    rw [if_neg (by omega)]
    exact h j hj
  unfold mayF at hx
  unfold doI
  simp only
  by_cases o6 : x.op = 6
  · rw [if_neg (by omega), if_neg (by omega), if_neg (by omega), if_neg (by omega), if_pos o6]
    split
    · exact hput _ _ (by omega)
    · split
      · exact hput _ _ (by omega)
      · exact hput _ _ (by omega)
  · rw [if_neg o6] at hx
    by_cases hc : x.c ≠ 0
    · rw [if_pos hc] at hx; cases hx
    rw [if_neg hc] at hx
    by_cases o1 : x.op = 1
    · rw [if_pos o1] at hx ⊢
      simp [inB] at hx
      exact hput _ _ (by omega)
    rw [if_neg o1] at hx ⊢
    by_cases o2 : x.op = 2
    · rw [if_pos (.inl o2)] at hx
      rw [if_pos o2]
      simp [inB] at hx
      exact hput _ _ (by omega)
    rw [if_neg o2]
    by_cases o3 : x.op = 3
    · rw [if_pos (.inr o3)] at hx
      rw [if_pos o3]
      simp [inB] at hx
      exact hput _ _ (by omega)
    rw [if_neg o3]
    rw [if_neg (by omega)] at hx
    by_cases o4 : x.op = 4
    · rw [if_pos o4] at hx ⊢
      simp [inB] at hx
      rcases draws[s.taken]? with _ | d
      · exact hput _ _ (by omega)
      · exact hput _ _ (by omega)
    rw [if_neg o4, if_neg o6]
    split
    · exact h
    · exact h

theorem runF_regz {ents : Int} {ks : List (List Ins)} {draws : List Int} (hc : CodesOk ents ks) (hd : DrawsOk draws) (horizon : Int) : ∀ (n : Nat) (s : KS), Fit ents ks draws s → RegZ ents s → RegZ ents (runF ks draws horizon n s).1
  | 0, s, _, h => h
  | n + 1, s, hf, h => by
    rcases hs : stepF ks draws horizon s with ⟨s1, _ | r, why⟩
    · simp only [runF, hs]; exact h
    · obtain ⟨q, hq, hz, rfl, hh⟩ := stepF_some hs
      obtain ⟨f1, _⟩ := happenF_fit hc hd hf hq
      have hev := hf.ok.evs r.e (by rw [hq]; exact List.mem_cons_self ..)
      have h1 : RegZ ents (happenF ks draws r.e s).1 := by
        unfold happenF
        refine execF_ind (fun x => mayF ents ks.length x.op x.a x.b x.c = true) (fun st => RegZ ents st) (fun x st hx h5 hst => doI_regz hst hx h5 (by omega)) _ _ _ (code_of hc r.e.kind.toNat).2 ?_
        exact h
      rw [hh] at f1 h1
      rcases hr : runF ks draws horizon n s1 with ⟨s2, rs, y⟩
      have := runF_regz hc hd horizon n s1 f1 h1
      rw [hr] at this
      simp only [runF, hs, hr]
      exact this
end Go.Proofs.YtndlmgocldckfaaGreat

namespace Go.Proofs.YtndlmgocldckfaaGreat
open Go.RowKit
set_option linter.unusedVariables false
set_option linter.unusedSimpArgs false

section
variable {ents : Int} {ks : List (List Ins)} {draws : List Int} {s : KS}
theorem fit0 (ents : Int) (ks : List (List Ins)) (draws : List Int) : Fit ents ks draws ks0 :=
  ⟨⟨by simp [ks0], by simp [ks0], by simp [ks0], by simp [ks0], by simp [ks0], by simp [ks0]⟩, ⟨by simp [ks0, Sorted], by simp [ks0, Distinct]⟩⟩

def planS (s : KS) (t k e : Int) : KS := { s with q := insF ⟨t, s.next, k, e⟩ s.q, next := s.next + 1 }

theorem plan_fit {t k e : Int} (h : Fit ents ks draws s) (ha : argF ents ks.length s t k e = true) (hr : s.q.length < 16 ∧ s.next < 1000000000) : Fit ents ks draws (planS s t k e) := by
  obtain ⟨⟨k1, k2, k3, k4, k5, k6⟩, q1, q2⟩ := h
  have hne : ∀ y ∈ s.q, y.number ≠ s.next := fun y hy => by have := (k5 y hy).2.2.2.1; omega
  simp only [argF, inB, Bool.and_eq_true, decide_eq_true_eq] at ha
  refine ⟨⟨k1, k2, by simp [planS]; omega, k4, ?_, by simp [planS, insF_length]; omega⟩, ⟨insF_sorted _ _ q1 hne, insF_distinct _ _ q2 hne⟩⟩
  intro x hx
  rcases (insF_mem _ _ _).1 hx with rfl | hx
  · simp [planS]; omega
  · have := k5 x hx
    simp [planS]; omega
end
end Go.Proofs.YtndlmgocldckfaaGreat

namespace Go.Proofs.YtndlmgocldckfaaGreat
open Go.RowKit Go.Conc
set_option linter.unusedVariables false
set_option linter.unusedSimpArgs false

/-- The deferred close of a channel that is open. -/
theorem lone_close {P : Program} {Q : Goroutine → World → Prop} {b : Frame} {tmps : Array Value} {k : List Item} {cs : List Frame} {w : World} {c n i T : Nat} {buf : Array Value} {fl : Array Bool} (hc : w.heap[c]? = some (.chan n buf false i 0 false))
    (h : LoneTo P Q (G { b.at ⟨tmps, []⟩ k with mode := .returning } cs) (w.setChan c n buf true i 0 false)) :
    LoneTo P Q (G { b.at ⟨tmps, [{ target := .builtin .close #[T] 0 fl, args := #[.chan (some c)] }]⟩ k with mode := .returning } cs) w := by
  have hrun := fun ty => run_close_open (P := P) (w := w) #[T] ty hc
  have hst : ∃ es, stepG P true (G { b.at ⟨tmps, [{ target := .builtin .close #[T] 0 fl, args := #[.chan (some c)] }]⟩ k with mode := .returning } cs) w = .go (G { b.at ⟨tmps, []⟩ k with mode := .returning } cs) (w.setChan c n buf true i 0 false) es := by
    simp [stepG, unwind, callDeferred, invoke, builtin, G, Frame.at, hrun, Result.andThen, World.setChan]
    exact ⟨_, rfl⟩
  obtain ⟨es, hes⟩ := hst
  exact .step (step_solo_go rfl hes) h

set_option maxHeartbeats 4000000 in
set_option maxRecDepth 1000000 in
theorem ms_any {R : Nat → Prop} {base : Nat} {kb qb mb c n : Nat} {ov : Value} {ents : Int} {ks : List (List Ins)} {draws : List Int} {s : KS} (horizon : Int) (w : World) (h : KerP R base w kb qb mb ov ents ks draws s) (hok : KOk ents ks.length draws s) (hents : ents ≤ 8) (hk8 : ks.length ≤ 8) (hn : n ≤ 1000) (hbase : base ≤ w.heap.size)
    (hcode : ∀ l ∈ ks, l.length ≤ 16 ∧ ∀ x ∈ l, mayF ents ks.length x.op x.a x.b x.c = true) (hd : ∀ d ∈ draws, 0 ≤ d ∧ d ≤ 1000000000) (hc : w.heap[c]? = some (.chan n #[] false 0 0 false)) (hck : ¬ KSet kb qb mb ov c) (hcR : ¬ R c) :
    Calls Tryz.prog 89 #[.pointer (some ⟨kb, 0, none⟩), .int .i64 n, .int .i64 horizon, .chan (some c)] w fun e w' => e = .returned (.int .i64 (runF ks draws horizon n s).2.2) ∧
      ∃ sqb smb ov2 sov2 buf w2, MsInv R base w w2 kb qb mb c sqb smb ov ents ks draws n (runF ks draws horizon n s).2.1.length (runF ks draws horizon n s).1 ov2 sov2 buf (runF ks draws horizon n s).2.1 ∧ w' = w2.setChan c n buf true (runF ks draws horizon n s).2.1.length 0 false := by
  refine calls_of_loneTo (fun cs => ?_)
  have e : Frame.enter Tryz.prog 89 #[.pointer (some ⟨kb, 0, none⟩), .int .i64 n, .int .i64 horizon, .chan (some c)] .normal = msBase.at ⟨#[.pointer (some ⟨kb, 0, none⟩), .int .i64 n, .int .i64 horizon, .chan (some c), undef, undef, undef, undef, undef, undef, undef, undef, undef, undef, undef, undef, undef, undef, undef, undef, undef, undef, undef, undef, undef, undef, undef, undef, undef, undef], []⟩ [.code (Tryz.f89.body.getD .skip)] := by
    simp [Frame.enter, Frame.at, Tryz.func89, msBase, Tryz.f89]
  rw [e]
  clear e
  simp only [Tryz.f89, Option.getD_some]
  refine lone_seq ?_
  refine lone_code ?_
  go_wp2
  refine lone_seq ?_
  refine lone_code ?_
  go_wp2
  refine lone_seq ?_
  refine lone_code ?_
  go_wp2_with (go_at_call 62; refine (qNew_any _).mono ?_; rintro e w1 ⟨rfl, rfl⟩)
  refine lone_seq ?_
  refine lone_seq ?_
  refine lone_code ?_
  go_wp2
  refine lone_block ?_
  refine lone_loop ?_
  have hcl : c < w.heap.size := (Array.getElem?_eq_some_iff.1 hc).1
  have hbN : Below w.heap.size w ((w.alloc (.map #[] 0)).alloc (.cells #[.map (some w.heap.size), .slice none 0 0] 156)) := ((Below.refl _ _).alloc (Nat.le_refl _) _).alloc (by simp) _
  have hqN := queP_new w.heap.size w 156
  have hI0 : MsInv R base w ((w.alloc (.map #[] 0)).alloc (.cells #[.map (some w.heap.size), .slice none 0 0] 156)) kb qb mb c (w.heap.size + 1) w.heap.size ov ents ks draws n 0 s ov (.slice none 0 0) #[] [] := by
    refine ⟨Only.new hbN, .inl rfl, h.below hbN, hok, ⟨[], hqN⟩, ?_, ⟨fun b hb hc => ?_, fun b hb hc => ?_⟩, (hbN.block c hcl).trans hc, rfl, rfl, by simp, by simp, by simp, hck, hcl, hcR⟩
    · rintro b (rfl | rfl | hb)
      · omega
      · exact Nat.le_refl _
      · simp [Value.ownBlock] at hb
    · have := h.lt b hb
      rcases hc with rfl | rfl | hc
      · omega
      · omega
      · simp [Value.ownBlock] at hc
    · have := h.rlt b hb
      rcases hc with rfl | rfl | hc
      · omega
      · omega
      · simp [Value.ownBlock] at hc
  rcases hF : runF ks draws horizon n s with ⟨s2, rs, why⟩
  refine ms_round (R := R) (base := base) (w := w) (kb := kb) (qb := qb) (mb := mb) (c := c) (sqb := w.heap.size + 1) (smb := w.heap.size) (n := n) (ov := ov) (ents := ents) (ks := ks) (draws := draws) horizon hents hk8 hn hbase hcode hd cs _ _ _ n 0 s ov (.slice none 0 0) #[] [] _ _ _ _ _ _ _ _ _ _ _ _ _ _ _ _ _ _ (by omega) hI0 ?_ ?_
  · intro why' st2 rs' i2 ov2 sov2 buf2 w2 x10 x11 y16 y17 y18 y19 y20 y21 y22 y23 y24 y25 y26 y27 y28 y29 k2 hR hI2 hw
    rw [hF] at hR
    simp only [Prod.mk.injEq] at hR
    obtain ⟨rfl, rfl, rfl⟩ := hR
    simp only [List.nil_append] at hI2
    refine lone_close hI2.chan ?_
    exact LoneTo.done ⟨.returned (.int .i64 why), _, rfl, ⟨rfl, _, _, ov2, sov2, buf2, w2, hI2, rfl⟩, rfl, rfl, rfl, rfl, _, Tryz.func89, by simp [results, Tryz.f89, Frame.at]⟩
  · intro st2 rs' i2 ov2 sov2 buf2 w2 x8 x10 x11 y16 y17 y18 y19 y20 y21 y22 y23 y24 y25 y26 y27 y28 y29 hR hI2
    rw [hF] at hR
    simp only [Prod.mk.injEq] at hR
    obtain ⟨rfl, rfl, rfl⟩ := hR
    simp only [List.nil_append] at hI2
    refine lone_seq ?_
    refine lone_code ?_
    go_wp2
    refine LoneTo.step (step_solo_go rfl stepG_ret') ?_
    refine lone_close hI2.chan ?_
    exact LoneTo.done ⟨.returned (.int .i64 0), _, rfl, ⟨rfl, _, _, ov2, sov2, buf2, w2, hI2, rfl⟩, rfl, rfl, rfl, rfl, _, Tryz.func89, by simp [results, Tryz.f89, Frame.at]⟩
end Go.Proofs.YtndlmgocldckfaaGreat

namespace Go.Proofs.YtndlmgocldckfaaGreat
open Go.RowKit Go.Conc
set_option linter.unusedVariables false
set_option linter.unusedSimpArgs false

section
variable {P : Program} {Q : Goroutine → World → Prop} {b : Frame} {a : Act} {k : List Item} {cs : List Frame} {w : World}
/-- A region of two operations: what is received from a channel that holds something, and what is taken out of that. -/
theorem lone_recv {id : Nat} {o0 o1 : Oper} {xc : Operand} {ty e : TypeId} {dr : ChanDir} {z v1 : Value} {c cap s r : Nat} {buf : Array Value} {closed tm : Bool} (hb : b.kind ≠ .early) (g0 : o0.guard = none) (g1 : o1.guard = none)
    (h0 : o0.op = .recv ty xc true) (hc : a.eval xc = .chan (some c)) (hu : P.underlying ty = some (.chan dr e)) (hz : (zeroValue e).run P w = .ok z w) (hch : w.heap[c]? = some (.chan cap buf closed s r tm)) (hsome : 0 < buf.size)
    (h1 : (execOp (a.put o0.dst (.tuple #[buf.getD 0 undef, .bool true])).eval o1).run P (w.setChan c cap (buf.extract 1 buf.size) closed s (r + 1) tm) = .ok (.value v1) (w.setChan c cap (buf.extract 1 buf.size) closed s (r + 1) tm))
    (h : LoneTo P Q (G (b.at ((a.put o0.dst (.tuple #[buf.getD 0 undef, .bool true])).put o1.dst v1) k) cs) (w.setChan c cap (buf.extract 1 buf.size) closed s (r + 1) tm)) :
    LoneTo P Q (G (b.at a (.code (.region id #[o0, o1] false) :: k)) cs) w := by
  refine .step (step_solo_go rfl stepG_region) ?_
  show LoneTo P Q (G (b.at a (.inRegion #[o0, o1] [0, 1] :: k)) cs) w
  refine .step (step_lone_recv_buf true (c := c) (z := z) (cap := cap) (buf := buf) (s := s) (r := r) (tm := tm) (closed := closed) (w₁ := w) (stepG_comm (o := o0) (cases := #[rcase c z]) (blocking := true) (shape := .recv true) (w' := w) rfl (by simp [Region.wanted, g0]) hb (by simp [execOp, h0, hc, run_underlying hu, hz, rcase, Result.andThen])) hch hsome) ?_
  rw [Frame.finish_at]
  simp only [got, if_true]
  refine .step (step_solo_go rfl (stepG_value (o := o1) rfl (by simp [Region.wanted, g1]) hb h1)) ?_
  refine .step (step_solo_go rfl stepG_region_end) ?_
  exact h
theorem lone_recv_shut {id : Nat} {o0 o1 : Oper} {xc : Operand} {ty e : TypeId} {dr : ChanDir} {z v1 : Value} {c cap s r : Nat} {tm : Bool} (hb : b.kind ≠ .early) (g0 : o0.guard = none) (g1 : o1.guard = none)
    (h0 : o0.op = .recv ty xc true) (hc : a.eval xc = .chan (some c)) (hu : P.underlying ty = some (.chan dr e)) (hz : (zeroValue e).run P w = .ok z w) (hch : w.heap[c]? = some (.chan cap #[] true s r tm))
    (h1 : (execOp (a.put o0.dst (.tuple #[z, .bool false])).eval o1).run P w = .ok (.value v1) w)
    (h : LoneTo P Q (G (b.at ((a.put o0.dst (.tuple #[z, .bool false])).put o1.dst v1) k) cs) w) :
    LoneTo P Q (G (b.at a (.code (.region id #[o0, o1] false) :: k)) cs) w := by
  refine .step (step_solo_go rfl stepG_region) ?_
  show LoneTo P Q (G (b.at a (.inRegion #[o0, o1] [0, 1] :: k)) cs) w
  refine .step (step_lone_recv_shut true (c := c) (z := z) (cap := cap) (s := s) (r := r) (tm := tm) (w₁ := w) (stepG_comm (o := o0) (cases := #[rcase c z]) (blocking := true) (shape := .recv true) (w' := w) rfl (by simp [Region.wanted, g0]) hb (by simp [execOp, h0, hc, run_underlying hu, hz, rcase, Result.andThen])) hch) ?_
  rw [Frame.finish_at]
  simp only [got, if_true]
  refine .step (step_solo_go rfl (stepG_value (o := o1) rfl (by simp [Region.wanted, g1]) hb h1)) ?_
  refine .step (step_solo_go rfl stepG_region_end) ?_
  exact h
end

abbrev lsBase : Frame := { (default : Frame) with fn := 90, kind := .normal }

set_option maxHeartbeats 4000000 in
set_option maxRecDepth 1000000 in
theorem ls_round {w : World} {c n i : Nat} (cs : List Frame) (Q : Goroutine → World → Prop) (k : List Item) (hcl : c < w.heap.size) (rest : List RecC) :
    ∀ (done : List RecC) (r : Nat) (ra : Array Value) (lv : Value) (wr : World) (x2 x4 y6 y7 y8 y9 y10 y11 y12 y13 : Value), ra.toList = rest.map RecC.v → (done ++ rest).length ≤ 1000 → wr.heap[c]? = some (.chan n ra true i r false) → wr.ownsRow w.heap.size 46 5 lv done.length (recCells done) → Only (· = c) w wr →
      (∀ (lv2 : Value) (w2 : World) (x4 y6 y7 y8 y9 y10 y11 y12 y13 : Value), w2.ownsRow w.heap.size 46 5 lv2 (done ++ rest).length (recCells (done ++ rest)) → Only (· = c) w w2 →
        LoneTo Tryz.prog Q (G (lsBase.at ⟨#[.chan (some c), undef, x2, lv2, x4, .chan (some c), y6, y7, y8, y9, y10, y11, y12, y13], []⟩ k) cs) w2) →
      LoneTo Tryz.prog Q (G (lsBase.at ⟨#[.chan (some c), undef, x2, lv, x4, .chan (some c), y6, y7, y8, y9, y10, y11, y12, y13], []⟩ (.code ((Tryz.f90.body.bind firstLoop).getD .skip) :: .inLoop ((Tryz.f90.body.bind firstLoop).getD .skip) :: .inBlock 0 :: k)) cs) wr := by
  induction rest with
  | nil =>
    intro done r ra lv wr x2 x4 y6 y7 y8 y9 y10 y11 y12 y13 hra hl hch hown ho hend
    have hra' : ra = #[] := by simpa using hra
    subst hra'
    refine lone_seq ?_
    refine lone_recv_shut (z := .agg #[.int .i64 0, .int .i64 0, .int .i64 0, .int .i64 0, .slice none 0 0]) (v1 := .bool false) (by simp) rfl rfl rfl rfl Tryz.underlying175 (by simp [go_sem]) hch (by simp [execOp, Act.eval, Act.put, Instr.extract]) ?_
    simp only [Act.put]
    refine lone_seq ?_
    refine lone_cond (t := false) rfl ?_
    simp only [Bool.false_eq_true, if_false]
    refine lone_exit rfl ?_
    refine hend lv wr _ _ _ _ _ _ _ _ _ (by simpa using hown) ho
  | cons x rest ih =>
    intro done r ra lv wr x2 x4 y6 y7 y8 y9 y10 y11 y12 y13 hra hl hch hown ho hend
    have hz0 := ho.size
    have h0 : ra.getD 0 undef = x.v := by
      have : ra[0]? = some x.v := by rw [← Array.getElem?_toList, hra]; simp
      simp [Array.getD_eq_getD_getElem?, this]
    have hsz : 0 < ra.size := by rw [← Array.length_toList, hra]; simp
    have hra2 : (ra.extract 1 ra.size).toList = rest.map RecC.v := by
      rw [Array.toList_extract, hra]
      simp [List.extract_eq_take_drop]
      rw [← Array.length_toList, hra]; simp
      exact List.take_of_length_le (by simp)
    have hoc : Only (· = c) wr (wr.setChan c n (ra.extract 1 ra.size) true i (r + 1) false) := ⟨rfl, rfl, rfl, by simp [World.setChan], fun k hk hn => by simp only [World.setChan]; rw [Array.getElem?_setIfInBounds_ne (fun e => hn e.symm)]⟩
    have hcc := heap_setChan wr c n (ra.extract 1 ra.size) true i (r + 1) false (by omega)
    refine lone_seq ?_
    refine lone_recv (z := .agg #[.int .i64 0, .int .i64 0, .int .i64 0, .int .i64 0, .slice none 0 0]) (v1 := .bool true) (by simp) rfl rfl rfl rfl Tryz.underlying175 (by simp [go_sem]) hch hsz (by simp [execOp, Act.eval, Act.put, Instr.extract]) ?_
    rw [h0]
    generalize wr.setChan c n (ra.extract 1 ra.size) true i (r + 1) false = W1 at hoc hcc ⊢
    have hz1 := hoc.size
    have hown1 := owns_only hown hoc (fun b hb hc => by have := (hown.lt b hb.symm).1; omega)
    have HL := hide (fun b (hb : some b = lv.ownBlock) => hown1.lt b hb.symm)
    obtain ⟨sa, sc, rfl⟩ := owns_formA hown1
    have Hown1 := hide hown1
    clear hown hown1
    simp only [Act.put, RecC.v]
    refine lone_seq ?_
    refine lone_cond (t := true) rfl ?_
    simp only [if_true]
    refine lone_skip ?_
    refine lone_block ?_
    refine lone_seq ?_
    refine lone_code ?_
    go_wp2
    refine lone_code ?_
    obtain ⟨W2, hW2⟩ : ∃ W2, W2 = W1.alloc (.cells #[.int .i64 x.e.number, .int .i64 x.e.time, .int .i64 x.e.kind, .int .i64 x.e.entity, .slice x.sa x.n x.sc] 46) := ⟨_, rfl⟩
    have hb2 : Below W1.heap.size W1 W2 := by rw [hW2]; exact (Below.refl _ _).alloc (Nat.le_refl _) _
    have z : ∀ (j : Nat) (v : Value), #[Value.int .i64 x.e.number, .int .i64 x.e.time, .int .i64 x.e.kind, .int .i64 x.e.entity, .slice x.sa x.n x.sc][j]? = some v → W2.cell? ⟨W1.heap.size, j, none⟩ = some v := by
      intro j v hv
      rw [hW2, World.cell?_alloc_at _ _ _ _ rfl]; exact hv
    have z0 := z 0 _ rfl
    have z1 := z 1 _ rfl
    have z2 := z 2 _ rfl
    have z3 := z 3 _ rfl
    have z4 := z 4 _ rfl
    have hzz : W2.heap.size = W1.heap.size + 1 := by rw [hW2]; simp
    rw [← hW2]
    have Hzz := hide hzz
    clear hW2 z hzz
    have hlen : done.length + 1 ≤ 1000 := by simp at hl; omega
    have Hown2 := hide ((owns_only Hown1.out (Only.new (S := fun _ => False) hb2) (by simp)).alloc (.cells #[.int .i64 x.e.number, .int .i64 x.e.time, .int .i64 x.e.kind, .int .i64 x.e.entity, .slice x.sa x.n x.sc] 46))
    go_wp2_with (at_builtin; refine wpList_append_src rfl (.tmp 9) (.tmp 11) 39 rfl w.heap.size 46 (.agg #[.int .i64 0, .int .i64 0, .int .i64 0, .int .i64 0, .slice none 0 0]) 5 56 Tryz.underlying39 Tryz.infoR rfl (by omega) _ done.length (recCells done) rfl Hown2.out _ 1 x.cells rfl (.inr (.inl ⟨W2.heap.size, 0, _, rfl, ?_⟩)) rfl ?_ (by omega) (by omega) (by have := Hzz.out; simp; omega) ?_)
    · intro j u hu
      have hj : j < 5 := by have := (List.getElem?_eq_some_iff.1 hu).1; simpa [RecC.cells] using this
      have : j = 0 ∨ j = 1 ∨ j = 2 ∨ j = 3 ∨ j = 4 := by omega
      rcases this with rfl | rfl | rfl | rfl | rfl <;> simp [RecC.cells] at hu <;> subst hu <;> simp [go_sem]
    · intro u hu
      simp [RecC.cells] at hu
      rcases hu with rfl | rfl | rfl | rfl | rfl <;> rfl
    intro v4 w4 hown4 hgr4 hwh4
    obtain ⟨sa4, sc4, rfl⟩ := owns_formA hown4.out
    have hc4 : w4.heap[c]? = some (.chan n (ra.extract 1 ra.size) true i (r + 1) false) := by
      have hzz := Hzz.out
      rw [hgr4.out.block c (by simp; omega) (fun hc => by have := (HL.out c hc).1; omega), Below.heap_alloc _ _ _ (by omega), hb2.block c (by omega)]
      exact hcc
    have ho4 : Only (· = c) w w4 := by
      have hzz := Hzz.out
      have hz4 := hgr4.out.size
      simp only [World.size_alloc] at hz4
      refine ⟨by rw [hgr4.out.os]; exact (hb2.os.trans hoc.os).trans ho.os, by rw [hgr4.out.tape]; exact (hb2.tape.trans hoc.tape).trans ho.tape, by rw [hgr4.out.output]; exact (hb2.output.trans hoc.output).trans ho.output, by omega, ?_⟩
      intro k' hk' hn
      rw [hgr4.out.block k' (by simp; omega) (fun hc => by have := (HL.out k' hc).1; omega), Below.heap_alloc _ _ _ (by omega), hb2.block k' (by omega), hoc.block k' (by omega) hn, ho.block k' hk' hn]
    have Hown4 := hide hown4.out
    clear hown4 hgr4 hwh4 HL Hown2 Hown1 z0 z1 z2 z3 z4
    go_wp2
    refine lone_inBlock ?_
    refine lone_inLoop ?_
    refine ih (done ++ [x]) (r + 1) (ra.extract 1 ra.size) (.slice sa4 (done.length + 1) sc4) w4 x2 _ _ _ _ _ _ _ _ _ hra2 (by simpa using hl) hc4 ?_ ho4 ?_
    · have := Hown4.out
      simpa [recCells] using this
    · intro lv2 w2 x4 y6 y7 y8 y9 y10 y11 y12 y13 hown2 ho2
      refine hend lv2 w2 x4 y6 y7 y8 y9 y10 y11 y12 y13 ?_ ho2
      simpa using hown2

set_option maxHeartbeats 4000000 in
set_option maxRecDepth 1000000 in
theorem listed_any (w : World) (c n i : Nat) (l : List RecC) (hl : l.length ≤ 1000) (hc : w.heap[c]? = some (.chan n (l.map RecC.v).toArray true i 0 false)) :
    Calls Tryz.prog 90 #[.chan (some c)] w fun e w' => ∃ lv, e = .returned lv ∧ w'.ownsRow w.heap.size 46 5 lv l.length (recCells l) ∧ Only (· = c) w w' := by
  refine calls_of_loneTo (fun cs => ?_)
  have hcl : c < w.heap.size := (Array.getElem?_eq_some_iff.1 hc).1
  have e : Frame.enter Tryz.prog 90 #[.chan (some c)] .normal = lsBase.at ⟨#[.chan (some c), undef, undef, undef, undef, undef, undef, undef, undef, undef, undef, undef, undef, undef], []⟩ [.code (Tryz.f90.body.getD .skip)] := by
    simp [Frame.enter, Frame.at, Tryz.func90, lsBase, Tryz.f90]
  rw [e]
  clear e
  simp only [Tryz.f90, Option.getD_some]
  refine lone_seq ?_
  refine lone_code ?_
  go_wp2
  refine lone_seq ?_
  refine lone_code ?_
  go_wp2
  refine lone_seq ?_
  refine lone_seq ?_
  refine lone_code ?_
  go_wp2
  refine lone_block ?_
  refine lone_loop ?_
  refine ls_round (w := w) (c := c) (n := n) (i := i) cs _ _ hcl l [] 0 _ (.slice none 0 0) w _ _ _ _ _ _ _ _ _ _ (by simp) (by simpa using hl) hc (World.ownsRow_nil _ _ _ _) (Only.refl _ _) ?_
  intro lv2 w2 x4 y6 y7 y8 y9 y10 y11 y12 y13 hown ho
  obtain ⟨sa, sc, rfl⟩ := owns_formA hown
  simp only [List.nil_append] at hown ⊢
  refine lone_seq ?_
  refine lone_code ?_
  go_wp2
  refine LoneTo.step (step_solo_go rfl stepG_ret') ?_
  exact LoneTo.done ⟨.returned (.slice sa l.length sc), _, rfl, ⟨_, rfl, hown, ho⟩, rfl, rfl, rfl, rfl, _, Tryz.func90, by simp [results, Tryz.f90, Frame.at]⟩
end Go.Proofs.YtndlmgocldckfaaGreat

namespace Go.Proofs.YtndlmgocldckfaaGreat
open Go.RowKit Go.Conc
set_option linter.unusedVariables false
set_option linter.unusedSimpArgs false

theorem mkChan (n : Nat) (hn : n ≤ 1000) (w : World) : (Instr.makeChan 139 (.int .i64 n)).run Tryz.prog w = .ok (.chan (some w.heap.size)) (w.alloc (.chan n #[] false 0 0 false)) := by
  obtain ⟨i, hi, hz, hs, hb⟩ := info_parts Tryz.infoR
  exact run_makeChan (P := Tryz.prog) (w := w) Tryz.underlying139 hi .i64 n (by omega) (by rw [hb]; omega)

theorem owns_base {w : World} {b b' : Nat} {e : TypeId} {size : Nat} {v : Value} {n : Nat} {xs : List Value} (h : w.ownsRow b e size v n xs) (hb : b' ≤ b) : w.ownsRow b' e size v n xs := by
  obtain ⟨h1, h2⟩ := h
  refine ⟨h1, ?_⟩
  rcases h2 with h2 | ⟨g, cap, cur, hv, hg, r⟩
  · exact .inl h2
  · exact .inr ⟨g, cap, cur, hv, by omega, r⟩

theorem recs_of : ∀ (vs : List Value) (rs : List Rec), vs.length = rs.length → (∀ (j : Nat) v r, vs[j]? = some v → rs[j]? = some r → ∃ sa sc, v = recV r.e (.slice sa r.told.length sc)) →
    ∃ L : List RecC, vs = L.map RecC.v ∧ L.length = rs.length ∧ ∀ (j : Nat) x r, L[j]? = some x → rs[j]? = some r → x.e = r.e ∧ x.n = r.told.length
  | [], rs, hl, _ => ⟨[], rfl, hl, by simp⟩
  | v :: vs, [], hl, _ => by simp at hl
  | v :: vs, r :: rs, hl, h => by
    obtain ⟨L, h1, h2, h3⟩ := recs_of vs rs (by simpa using hl) (fun j v' r' hv hr => h (j + 1) v' r' (by simpa using hv) (by simpa using hr))
    obtain ⟨sa, sc, hv⟩ := h 0 v r rfl rfl
    refine ⟨⟨r.e, sa, r.told.length, sc⟩ :: L, by rw [hv, h1]; rfl, by simp [h2], ?_⟩
    intro j x r' hx hr
    cases j with
    | zero => simp at hx hr; subst hx; subst hr; exact ⟨rfl, rfl⟩
    | succ j => exact h3 j x r' (by simpa using hx) (by simpa using hr)

theorem runF_length (ks : List (List Ins)) (draws : List Int) (horizon : Int) : ∀ (n : Nat) (s : KS), (runF ks draws horizon n s).2.1.length ≤ n
  | 0, s => by simp [runF]
  | n + 1, s => by
    unfold runF
    split
    · rename_i s' r y hs
      have := runF_length ks draws horizon n s'
      simp; omega
    · simp

/-- What a run leaves: the records, as they lie. -/
structure RunOut (w w' : World) (kb qb mb : Nat) (ov2 : Value) (lv : Value) (L : List RecC) (rs : List Rec) : Prop where
  len : L.length = rs.length
  row : w'.ownsRow w.heap.size 46 5 lv L.length (recCells L)
  rec_ : ∀ (j : Nat) x r, L[j]? = some x → rs[j]? = some r → x.e = r.e ∧ x.n = r.told.length ∧ w'.ownsRow w.heap.size 3 1 (.slice x.sa x.n x.sc) r.told.length (ints r.told)
  lsep : ∀ b, some b = lv.ownBlock → ¬ KSet kb qb mb ov2 b
  tsep : ∀ (j : Nat) x b, L[j]? = some x → some b = (Value.slice x.sa x.n x.sc).ownBlock → ¬ KSet kb qb mb ov2 b ∧ some b ≠ lv.ownBlock
  apart : ∀ (j k : Nat) x y b, L[j]? = some x → L[k]? = some y → some b = (Value.slice x.sa x.n x.sc).ownBlock → some b = (Value.slice y.sa y.n y.sc).ownBlock → j = k

set_option maxHeartbeats 2000000 in
set_option maxRecDepth 100000 in
theorem run_arg (kb : Nat) (steps horizon : Int) (w : World) (hs : ¬ (0 ≤ steps ∧ steps ≤ 1000)) :
    Calls Tryz.prog 46 #[.pointer (some ⟨kb, 0, none⟩), .int .i64 steps, .int .i64 horizon] w fun e w' => e = .returned (.tuple #[.slice none 0 0, .int .i64 0, .int .i64 1]) ∧ w' = w := by
  by_cases h0 : steps < 0
  · go_enter Tryz.func46, Tryz.ntmps46
    go_wp2
    go_ret3
    exact ⟨rfl, rfl⟩
  · have h1 : 1000 < steps := by omega
    go_enter Tryz.func46, Tryz.ntmps46
    go_wp2
    go_ret3
    exact ⟨rfl, rfl⟩

set_option maxHeartbeats 2000000 in
set_option maxRecDepth 100000 in
theorem run_ok {R : Nat → Prop} {base : Nat} {kb qb mb : Nat} {ov : Value} {ents : Int} {ks : List (List Ins)} {draws : List Int} {s : KS} (n : Nat) (horizon : Int) (w : World) (h : KerP R base w kb qb mb ov ents ks draws s) (hok : KOk ents ks.length draws s) (hents : ents ≤ 8) (hk8 : ks.length ≤ 8) (hn : n ≤ 1000) (hbase : base ≤ w.heap.size)
    (hcode : ∀ l ∈ ks, l.length ≤ 16 ∧ ∀ x ∈ l, mayF ents ks.length x.op x.a x.b x.c = true) (hd : ∀ d ∈ draws, 0 ≤ d ∧ d ≤ 1000000000) (s2 : KS) (rs : List Rec) (why : Int) (hF : runF ks draws horizon n s = (s2, rs, why)) :
    Calls Tryz.prog 46 #[.pointer (some ⟨kb, 0, none⟩), .int .i64 n, .int .i64 horizon] w fun e w' => ∃ lv ov2 L, e = .returned (.tuple #[lv, .int .i64 why, .int .i64 0]) ∧ Only (KSet kb qb mb ov) w w' ∧ Moved w ov ov2 ∧ KerP R base w' kb qb mb ov2 ents ks draws s2 ∧ KOk ents ks.length draws s2 ∧ RunOut w w' kb qb mb ov2 lv L rs := by
  have hmk := mkChan n hn w
  have hbA : Below w.heap.size w (w.alloc (.chan n #[] false 0 0 false)) := (Below.refl _ _).alloc (Nat.le_refl _) _
  have hcn : ¬ KSet kb qb mb ov w.heap.size := fun hc => by have := h.lt _ hc; omega
  have HM := hide (ms_any (n := n) (c := w.heap.size) horizon (w.alloc (.chan n #[] false 0 0 false)) (h.below hbA) hok hents hk8 hn (by simp; omega) hcode hd (heap_new _ _) hcn (fun hc => by have := h.rlt _ hc; omega))
  rw [hF] at HM
  simp only at HM
  have n1 : (n : Int) ≤ 1000 := by omega
  have hlenF := runF_length ks draws horizon n s
  rw [hF] at hlenF
  simp only at hlenF
  have H := hide h
  clear h hF hcode hd
  go_enter Tryz.func46, Tryz.ntmps46
  have hrl : rs.length ≤ 1000 := by omega
  have HE : Hid (∀ w1 sqb smb ov2 sov2 buf w2, MsInv R base (w.alloc (.chan n #[] false 0 0 false)) w2 kb qb mb w.heap.size sqb smb ov ents ks draws n rs.length s2 ov2 sov2 buf rs → w1 = w2.setChan w.heap.size n buf true rs.length 0 false →
      Calls Tryz.prog 90 #[.chan (some w.heap.size)] w1 fun e w' => ∃ lsa lsc L, e = .returned (.slice lsa rs.length lsc) ∧ Only (KSet kb qb mb ov) w w' ∧ Moved w ov ov2 ∧ KerP R base w' kb qb mb ov2 ents ks draws s2 ∧ KOk ents ks.length draws s2 ∧ RunOut w w' kb qb mb ov2 (.slice lsa rs.length lsc) L rs) := by
    intro w1 sqb smb ov2 sov2 buf w2 hI hw1
    obtain ⟨L, hL1, hL2, hL3⟩ := recs_of buf.toList rs (by rw [Array.length_toList, hI.size]) (fun j v r hv hr => by
      obtain ⟨sa, sc, e1, _⟩ := hI.recd j v r (by simpa using hv) hr
      exact ⟨sa, sc, e1⟩)
    have hbL : buf = (L.map RecC.v).toArray := by rw [← hL1]
    have hzA := hI.only.size
    simp only [World.size_alloc] at hzA
    have ho1 : Only (· = w.heap.size) w2 w1 := by rw [hw1]; exact ⟨rfl, rfl, rfl, by simp [World.setChan], fun k hk hn => by simp only [World.setChan]; rw [Array.getElem?_setIfInBounds_ne (fun e => hn e.symm)]⟩
    have hch : w1.heap[w.heap.size]? = some (.chan n (L.map RecC.v).toArray true rs.length 0 false) := by rw [hw1, heap_setChan _ _ _ _ _ _ _ _ (by omega), hbL]
    have hz1 : w1.heap.size = w2.heap.size := by rw [hw1]; exact size_setChan _ _ _ _ _ _ _ _
    refine (listed_any w1 w.heap.size n rs.length L (by omega) hch).mono ?_
    rintro e w' ⟨lv, rfl, hown, ho⟩
    rw [hL2] at hown
    obtain ⟨lsa, lsc, rfl⟩ := owns_formA hown
    have hz' := ho.size
    have hoc : Only (· = w.heap.size) w2 w' := ho1.trans ho
    have hget : ∀ (j : Nat) x, L[j]? = some x → buf[j]? = some x.v := by
      intro j x hx
      rw [← Array.getElem?_toList, hL1]; simp [hx]
    have hrec : ∀ (j : Nat) x r, L[j]? = some x → rs[j]? = some r → w'.ownsRow w.heap.size 3 1 (.slice x.sa x.n x.sc) r.told.length (ints r.told) := by
      intro j x r hx hr
      obtain ⟨sa, sc, e1, e2⟩ := hI.recd j x.v r (hget j x hx) hr
      simp only [RecC.v, recV, Value.agg.injEq, Array.mk.injEq, List.cons.injEq, Value.slice.injEq] at e1
      obtain ⟨_, _, _, _, ⟨rfl, h5, rfl⟩, _⟩ := e1
      rw [h5]
      exact owns_base (owns_only e2 hoc (fun b hb hc => (hI.rsep j x.v b (hget j x hx) (by rw [← h5] at hb; exact hb)).2.2.1 hc)) (by simp)
    have hlv : ∀ b, some b = (Value.slice lsa rs.length lsc).ownBlock → w2.heap.size ≤ b := fun b hb => by have := (hown.lt b hb.symm).1; omega
    refine ⟨lsa, lsc, L, rfl, ?_, ?_, hI.ker.only hoc (fun b hb hc => by subst hc; exact hI.ck hb) (fun b hb hc => by subst hc; exact hI.cr hb), hI.ok, ⟨hL2, ?_, ?_, ?_, ?_, ?_⟩⟩
    · refine ⟨hoc.os.trans hI.only.os, hoc.tape.trans hI.only.tape, hoc.output.trans hI.only.output, by omega, ?_⟩
      intro k hk hn
      rw [hoc.block k (by omega) (by omega), hI.only.block k (by simp; omega) (fun hc => by rcases hc with hc | hc; exact hn hc; omega), Below.heap_alloc _ _ _ hk]
    · rcases hI.moved with e | ⟨g, e, hg⟩
      · exact .inl e
      · exact .inr ⟨g, e, by simp at hg; omega⟩
    · rw [hL2]; exact owns_base hown (by omega)
    · intro j x r hx hr
      exact ⟨(hL3 j x r hx hr).1, (hL3 j x r hx hr).2, hrec j x r hx hr⟩
    · intro b hb hc
      have := hI.ker.lt b hc
      have := hlv b hb
      omega
    · intro j x b hx hb
      obtain ⟨s1, s2', s3, s4⟩ := hI.rsep j x.v b (hget j x hx) hb
      refine ⟨s1, fun hc => ?_⟩
      have := hlv b hc
      omega
    · intro j k x y b hx hy hb hb'
      exact hI.apart j k x.v y.v b (hget j x hx) (hget k y hy) hb hb'
  go_wp2_with (first
    | (go_at_call 89; refine HM.out.mono ?_; rintro e w1 ⟨rfl, sqb, smb, ov2, sov2, buf, w2, hI, hw1⟩; (have HC := hide (HE.out w1 sqb smb ov2 sov2 buf w2 hI hw1)); clear hI hw1)
    | (go_at_call 90; refine HC.out.mono ?_; rintro e w3 ⟨lsa, lsc, L, rfl, r1, r2, r3, r4, r5⟩))
  go_ret3
  exact ⟨_, ov2, L, rfl, r1, r2, r3, r4, r5⟩
end Go.Proofs.YtndlmgocldckfaaGreat
