import Derived.Test.YtndlmgocldckfaaStq
import Derived.Conc.LoneCalls
namespace Go.Proofs.Ytndlmgocldckfaa
open Go.RowKit Go.Conc
set_option linter.unusedVariables false
set_option linter.unusedSimpArgs false

/-! Channels in one goroutine: the machine's own steps where something is sent or received; the walk everywhere else. -/

section
variable {P : Program} {Q : Goroutine → World → Prop} {b : Frame} {a : Act} {k : List Item} {cs : List Frame} {w : World}

/-- A piece of code that is walked. -/
theorem lone_code {c : Code} (h : c.wp P (Exit.then (fun a' w' => LoneTo P Q (G (b.at a' k) cs) w') (fun _ _ _ => False)) a w) : LoneTo P Q (G (b.at a (.code c :: k)) cs) w := by
  obtain ⟨e, a', w', hq, harr⟩ := h b k cs
  cases e with
  | normal =>
    obtain ⟨g, w2, hs, hQ⟩ := hq
    exact ⟨g, w2, Steps.trans harr hs, hQ⟩
  | _ => exact hq.elim
theorem lone_seq {x y : Code} (h : LoneTo P Q (G (b.at a (.code x :: .code y :: k)) cs) w) : LoneTo P Q (G (b.at a (.code (.seq x y) :: k)) cs) w := .step (step_solo_go rfl stepG_seq) h
theorem lone_skip (h : LoneTo P Q (G (b.at a k) cs) w) : LoneTo P Q (G (b.at a (.code .skip :: k)) cs) w := .step (step_solo_go rfl stepG_skip) h
theorem lone_block {id : Nat} {c : Code} (h : LoneTo P Q (G (b.at a (.code c :: .inBlock id :: k)) cs) w) : LoneTo P Q (G (b.at a (.code (.block id c) :: k)) cs) w := .step (step_solo_go rfl stepG_block) h
theorem lone_inBlock {id : Nat} (h : LoneTo P Q (G (b.at a k) cs) w) : LoneTo P Q (G (b.at a (.inBlock id :: k)) cs) w := .step (step_solo_go rfl stepG_inBlock) h
theorem lone_loop {c : Code} (h : LoneTo P Q (G (b.at a (.code c :: .inLoop c :: k)) cs) w) : LoneTo P Q (G (b.at a (.code (.loop c) :: k)) cs) w := .step (step_solo_go rfl stepG_loop) h
theorem lone_inLoop {c : Code} (h : LoneTo P Q (G (b.at a (.code c :: .inLoop c :: k)) cs) w) : LoneTo P Q (G (b.at a (.inLoop c :: k)) cs) w := .step (step_solo_go rfl stepG_inLoop) h
theorem lone_exit {id : Nat} {k' : List Item} (he : exitTo id k = some k') (h : LoneTo P Q (G (b.at a k') cs) w) : LoneTo P Q (G (b.at a (.code (.exit id) :: k)) cs) w := .step (step_solo_go rfl (stepG_exit he)) h
theorem lone_cond {c : Operand} {x y : Code} {t : Bool} (hc : a.eval c = .bool t) (h : LoneTo P Q (G (b.at a (.code (if t then x else y) :: k)) cs) w) : LoneTo P Q (G (b.at a (.code (.cond c x y) :: k)) cs) w := .step (step_solo_go rfl (stepG_cond hc)) h

/-- A region of three operations, the last of which sends into a channel with room. -/
theorem lone_send {id : Nat} {o0 o1 o2 : Oper} {xc xv : Operand} {v0 v1 v : Value} {c cap s r : Nat} {buf : Array Value} {tm : Bool} (hb : b.kind ≠ .early) (g0 : o0.guard = none) (g1 : o1.guard = none) (g2 : o2.guard = none)
    (h0 : (execOp a.eval o0).run P w = .ok (.value v0) w) (h1 : (execOp (a.put o0.dst v0).eval o1).run P w = .ok (.value v1) w) (h2 : o2.op = .send xc xv)
    (hc : ((a.put o0.dst v0).put o1.dst v1).eval xc = .chan (some c)) (hv : ((a.put o0.dst v0).put o1.dst v1).eval xv = v) (hch : w.heap[c]? = some (.chan cap buf false s r tm)) (hroom : buf.size < cap)
    (h : LoneTo P Q (G (b.at (((a.put o0.dst v0).put o1.dst v1).put o2.dst undef) k) cs) (w.setChan c cap (buf.push v) false (s + 1) r tm)) :
    LoneTo P Q (G (b.at a (.code (.region id #[o0, o1, o2] false) :: k)) cs) w := by
  refine .step (step_solo_go rfl stepG_region) ?_
  show LoneTo P Q (G (b.at a (.inRegion #[o0, o1, o2] [0, 1, 2] :: k)) cs) w
  refine .step (step_solo_go rfl (stepG_value (o := o0) rfl (by simp [Region.wanted, g0]) hb h0)) ?_
  refine .step (step_solo_go rfl (stepG_value (o := o1) rfl (by simp [Region.wanted, g1]) hb h1)) ?_
  refine .step (step_lone_send_room (c := c) (cap := cap) (buf := buf) (s := s) (r := r) (tm := tm) (v := v) (z' := .tuple #[]) (w₁ := w) (stepG_comm (o := o2) (cases := #[scase c v (.tuple #[])]) (blocking := true) (shape := .send) (w' := w) rfl (by simp [Region.wanted, g2]) hb (by simp [execOp, h2, hc, hv, scase])) hch hroom) ?_
  rw [Frame.finish_at]
  refine .step (step_solo_go rfl stepG_region_end) ?_
  exact h
end
end Go.Proofs.Ytndlmgocldckfaa
