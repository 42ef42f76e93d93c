import Derived.Test.YtndlmgocldckfaaMsk
namespace Go.Proofs.Ytndlmgocldckfaa
open Go.RowKit Go.Conc
set_option linter.unusedVariables false
set_option linter.unusedSimpArgs false

section
variable {P : Program} {Q : Goroutine → World → Prop} {b : Frame} {a : Act} {k : List Item} {cs : List Frame} {w : World}
/-- A region of two operations: what is received from a channel that holds something, and what is taken out of that. -/
theorem lone_recv {id : Nat} {o0 o1 : Oper} {xc : Operand} {ty e : TypeId} {dr : ChanDir} {z v1 : Value} {c cap s r : Nat} {buf : Array Value} {closed tm : Bool} (hb : b.kind ≠ .early) (g0 : o0.guard = none) (g1 : o1.guard = none)
    (h0 : o0.op = .recv ty xc true) (hc : a.eval xc = .chan (some c)) (hu : P.underlying ty = some (.chan dr e)) (hz : (zeroValue e).run P w = .ok z w) (hch : w.heap[c]? = some (.chan cap buf closed s r tm)) (hsome : 0 < buf.size)
    (h1 : (execOp (a.put o0.dst (.tuple #[buf.getD 0 undef, .bool true])).eval o1).run P (w.setChan c cap (buf.extract 1 buf.size) closed s (r + 1) tm) = .ok (.value v1) (w.setChan c cap (buf.extract 1 buf.size) closed s (r + 1) tm))
    (h : LoneTo P Q (G (b.at ((a.put o0.dst (.tuple #[buf.getD 0 undef, .bool true])).put o1.dst v1) k) cs) (w.setChan c cap (buf.extract 1 buf.size) closed s (r + 1) tm)) :
    LoneTo P Q (G (b.at a (.code (.region id #[o0, o1] false) :: k)) cs) w := by
  refine .step (step_solo_go rfl stepG_region) ?_
  show LoneTo P Q (G (b.at a (.inRegion #[o0, o1] [0, 1] :: k)) cs) w
  refine .step (step_lone_recv_buf true (c := c) (z := z) (cap := cap) (buf := buf) (s := s) (r := r) (tm := tm) (closed := closed) (w₁ := w) (stepG_comm (o := o0) (cases := #[rcase c z]) (blocking := true) (shape := .recv true) (w' := w) rfl (by simp [Region.wanted, g0]) hb (by simp [execOp, h0, hc, run_underlying hu, hz, rcase, Result.andThen])) hch hsome) ?_
  rw [Frame.finish_at]
  simp only [got, if_true]
  refine .step (step_solo_go rfl (stepG_value (o := o1) rfl (by simp [Region.wanted, g1]) hb h1)) ?_
  refine .step (step_solo_go rfl stepG_region_end) ?_
  exact h
theorem lone_recv_shut {id : Nat} {o0 o1 : Oper} {xc : Operand} {ty e : TypeId} {dr : ChanDir} {z v1 : Value} {c cap s r : Nat} {tm : Bool} (hb : b.kind ≠ .early) (g0 : o0.guard = none) (g1 : o1.guard = none)
    (h0 : o0.op = .recv ty xc true) (hc : a.eval xc = .chan (some c)) (hu : P.underlying ty = some (.chan dr e)) (hz : (zeroValue e).run P w = .ok z w) (hch : w.heap[c]? = some (.chan cap #[] true s r tm))
    (h1 : (execOp (a.put o0.dst (.tuple #[z, .bool false])).eval o1).run P w = .ok (.value v1) w)
    (h : LoneTo P Q (G (b.at ((a.put o0.dst (.tuple #[z, .bool false])).put o1.dst v1) k) cs) w) :
    LoneTo P Q (G (b.at a (.code (.region id #[o0, o1] false) :: k)) cs) w := by
  refine .step (step_solo_go rfl stepG_region) ?_
  show LoneTo P Q (G (b.at a (.inRegion #[o0, o1] [0, 1] :: k)) cs) w
  refine .step (step_lone_recv_shut true (c := c) (z := z) (cap := cap) (s := s) (r := r) (tm := tm) (w₁ := w) (stepG_comm (o := o0) (cases := #[rcase c z]) (blocking := true) (shape := .recv true) (w' := w) rfl (by simp [Region.wanted, g0]) hb (by simp [execOp, h0, hc, run_underlying hu, hz, rcase, Result.andThen])) hch) ?_
  rw [Frame.finish_at]
  simp only [got, if_true]
  refine .step (step_solo_go rfl (stepG_value (o := o1) rfl (by simp [Region.wanted, g1]) hb h1)) ?_
  refine .step (step_solo_go rfl stepG_region_end) ?_
  exact h
end

abbrev lsBase : Frame := { (default : Frame) with fn := 26, kind := .normal }

set_option maxHeartbeats 4000000 in
set_option maxRecDepth 1000000 in
theorem ls_round {w : World} {c n i : Nat} (cs : List Frame) (Q : Goroutine → World → Prop) (k : List Item) (hcl : c < w.heap.size) (rest : List RecC) :
    ∀ (done : List RecC) (r : Nat) (ra : Array Value) (lv : Value) (wr : World) (x2 x4 y6 y7 y8 y9 y10 y11 y12 y13 : Value), ra.toList = rest.map RecC.v → (done ++ rest).length ≤ 1000 → wr.heap[c]? = some (.chan n ra true i r false) → wr.ownsRow w.heap.size 36 5 lv done.length (recCells done) → Only (· = c) w wr →
      (∀ (lv2 : Value) (w2 : World) (x4 y6 y7 y8 y9 y10 y11 y12 y13 : Value), w2.ownsRow w.heap.size 36 5 lv2 (done ++ rest).length (recCells (done ++ rest)) → Only (· = c) w w2 →
        LoneTo Try.prog Q (G (lsBase.at ⟨#[.chan (some c), undef, x2, lv2, x4, .chan (some c), y6, y7, y8, y9, y10, y11, y12, y13], []⟩ k) cs) w2) →
      LoneTo Try.prog Q (G (lsBase.at ⟨#[.chan (some c), undef, x2, lv, x4, .chan (some c), y6, y7, y8, y9, y10, y11, y12, y13], []⟩ (.code ((Try.f26.body.bind firstLoop).getD .skip) :: .inLoop ((Try.f26.body.bind firstLoop).getD .skip) :: .inBlock 0 :: k)) cs) wr := by
  induction rest with
  | nil =>
    intro done r ra lv wr x2 x4 y6 y7 y8 y9 y10 y11 y12 y13 hra hl hch hown ho hend
    have hra' : ra = #[] := by simpa using hra
    subst hra'
    refine lone_seq ?_
    refine lone_recv_shut (z := .agg #[.int .i64 0, .int .i64 0, .int .i64 0, .int .i64 0, .slice none 0 0]) (v1 := .bool false) (by simp) rfl rfl rfl rfl Try.underlying106 (by simp [go_sem]) hch (by simp [execOp, Act.eval, Act.put, Instr.extract]) ?_
    simp only [Act.put]
    refine lone_seq ?_
    refine lone_cond (t := false) rfl ?_
    simp only [Bool.false_eq_true, if_false]
    refine lone_exit rfl ?_
    refine hend lv wr _ _ _ _ _ _ _ _ _ (by simpa using hown) ho
  | cons x rest ih =>
    intro done r ra lv wr x2 x4 y6 y7 y8 y9 y10 y11 y12 y13 hra hl hch hown ho hend
    have hz0 := ho.size
    have h0 : ra.getD 0 undef = x.v := by
      have : ra[0]? = some x.v := by rw [← Array.getElem?_toList, hra]; simp
      simp [Array.getD_eq_getD_getElem?, this]
    have hsz : 0 < ra.size := by rw [← Array.length_toList, hra]; simp
    have hra2 : (ra.extract 1 ra.size).toList = rest.map RecC.v := by
      rw [Array.toList_extract, hra]
      simp [List.extract_eq_take_drop]
      rw [← Array.length_toList, hra]; simp
      exact List.take_of_length_le (by simp)
    have hoc : Only (· = c) wr (wr.setChan c n (ra.extract 1 ra.size) true i (r + 1) false) := ⟨rfl, rfl, rfl, by simp [World.setChan], fun k hk hn => by simp only [World.setChan]; rw [Array.getElem?_setIfInBounds_ne (fun e => hn e.symm)]⟩
    have hcc := heap_setChan wr c n (ra.extract 1 ra.size) true i (r + 1) false (by omega)
    refine lone_seq ?_
    refine lone_recv (z := .agg #[.int .i64 0, .int .i64 0, .int .i64 0, .int .i64 0, .slice none 0 0]) (v1 := .bool true) (by simp) rfl rfl rfl rfl Try.underlying106 (by simp [go_sem]) hch hsz (by simp [execOp, Act.eval, Act.put, Instr.extract]) ?_
    rw [h0]
    generalize wr.setChan c n (ra.extract 1 ra.size) true i (r + 1) false = W1 at hoc hcc ⊢
    have hz1 := hoc.size
    have hown1 := owns_only hown hoc (fun b hb hc => by have := (hown.lt b hb.symm).1; omega)
    have HL := hide (fun b (hb : some b = lv.ownBlock) => hown1.lt b hb.symm)
    obtain ⟨sa, sc, rfl⟩ := owns_formA hown1
    have Hown1 := hide hown1
    clear hown hown1
    simp only [Act.put, RecC.v]
    refine lone_seq ?_
    refine lone_cond (t := true) rfl ?_
    simp only [if_true]
    refine lone_skip ?_
    refine lone_block ?_
    refine lone_seq ?_
    refine lone_code ?_
    go_wp2
    refine lone_code ?_
    obtain ⟨W2, hW2⟩ : ∃ W2, W2 = W1.alloc (.cells #[.int .i64 x.e.number, .int .i64 x.e.time, .int .i64 x.e.kind, .int .i64 x.e.entity, .slice x.sa x.n x.sc] 36) := ⟨_, rfl⟩
    have hb2 : Below W1.heap.size W1 W2 := by rw [hW2]; exact (Below.refl _ _).alloc (Nat.le_refl _) _
    have z : ∀ (j : Nat) (v : Value), #[Value.int .i64 x.e.number, .int .i64 x.e.time, .int .i64 x.e.kind, .int .i64 x.e.entity, .slice x.sa x.n x.sc][j]? = some v → W2.cell? ⟨W1.heap.size, j, none⟩ = some v := by
      intro j v hv
      rw [hW2, World.cell?_alloc_at _ _ _ _ rfl]; exact hv
    have z0 := z 0 _ rfl
    have z1 := z 1 _ rfl
    have z2 := z 2 _ rfl
    have z3 := z 3 _ rfl
    have z4 := z 4 _ rfl
    have hzz : W2.heap.size = W1.heap.size + 1 := by rw [hW2]; simp
    rw [← hW2]
    have Hzz := hide hzz
    clear hW2 z hzz
    have hlen : done.length + 1 ≤ 1000 := by simp at hl; omega
    have Hown2 := hide ((owns_only Hown1.out (Only.new (S := fun _ => False) hb2) (by simp)).alloc (.cells #[.int .i64 x.e.number, .int .i64 x.e.time, .int .i64 x.e.kind, .int .i64 x.e.entity, .slice x.sa x.n x.sc] 36))
    go_wp2_with (at_builtin; refine wpList_append_src rfl (.tmp 9) (.tmp 11) 29 rfl w.heap.size 36 (.agg #[.int .i64 0, .int .i64 0, .int .i64 0, .int .i64 0, .slice none 0 0]) 5 56 Try.underlying29 Try.infoR rfl (by omega) _ done.length (recCells done) rfl Hown2.out _ 1 x.cells rfl (.inr (.inl ⟨W2.heap.size, 0, _, rfl, ?_⟩)) rfl ?_ (by omega) (by omega) (by have := Hzz.out; simp; omega) ?_)
    · intro j u hu
      have hj : j < 5 := by have := (List.getElem?_eq_some_iff.1 hu).1; simpa [RecC.cells] using this
      have : j = 0 ∨ j = 1 ∨ j = 2 ∨ j = 3 ∨ j = 4 := by omega
      rcases this with rfl | rfl | rfl | rfl | rfl <;> simp [RecC.cells] at hu <;> subst hu <;> simp [go_sem]
    · intro u hu
      simp [RecC.cells] at hu
      rcases hu with rfl | rfl | rfl | rfl | rfl <;> rfl
    intro v4 w4 hown4 hgr4 hwh4
    obtain ⟨sa4, sc4, rfl⟩ := owns_formA hown4.out
    have hc4 : w4.heap[c]? = some (.chan n (ra.extract 1 ra.size) true i (r + 1) false) := by
      have hzz := Hzz.out
      rw [hgr4.out.block c (by simp; omega) (fun hc => by have := (HL.out c hc).1; omega), Below.heap_alloc _ _ _ (by omega), hb2.block c (by omega)]
      exact hcc
    have ho4 : Only (· = c) w w4 := by
      have hzz := Hzz.out
      have hz4 := hgr4.out.size
      simp only [World.size_alloc] at hz4
      refine ⟨by rw [hgr4.out.os]; exact (hb2.os.trans hoc.os).trans ho.os, by rw [hgr4.out.tape]; exact (hb2.tape.trans hoc.tape).trans ho.tape, by rw [hgr4.out.output]; exact (hb2.output.trans hoc.output).trans ho.output, by omega, ?_⟩
      intro k' hk' hn
      rw [hgr4.out.block k' (by simp; omega) (fun hc => by have := (HL.out k' hc).1; omega), Below.heap_alloc _ _ _ (by omega), hb2.block k' (by omega), hoc.block k' (by omega) hn, ho.block k' hk' hn]
    have Hown4 := hide hown4.out
    clear hown4 hgr4 hwh4 HL Hown2 Hown1 z0 z1 z2 z3 z4
    go_wp2
    refine lone_inBlock ?_
    refine lone_inLoop ?_
    refine ih (done ++ [x]) (r + 1) (ra.extract 1 ra.size) (.slice sa4 (done.length + 1) sc4) w4 x2 _ _ _ _ _ _ _ _ _ hra2 (by simpa using hl) hc4 ?_ ho4 ?_
    · have := Hown4.out
      simpa [recCells] using this
    · intro lv2 w2 x4 y6 y7 y8 y9 y10 y11 y12 y13 hown2 ho2
      refine hend lv2 w2 x4 y6 y7 y8 y9 y10 y11 y12 y13 ?_ ho2
      simpa using hown2

set_option maxHeartbeats 4000000 in
set_option maxRecDepth 1000000 in
theorem listed_any (w : World) (c n i : Nat) (l : List RecC) (hl : l.length ≤ 1000) (hc : w.heap[c]? = some (.chan n (l.map RecC.v).toArray true i 0 false)) :
    Calls Try.prog 26 #[.chan (some c)] w fun e w' => ∃ lv, e = .returned lv ∧ w'.ownsRow w.heap.size 36 5 lv l.length (recCells l) ∧ Only (· = c) w w' := by
  refine calls_of_loneTo (fun cs => ?_)
  have hcl : c < w.heap.size := (Array.getElem?_eq_some_iff.1 hc).1
  have e : Frame.enter Try.prog 26 #[.chan (some c)] .normal = lsBase.at ⟨#[.chan (some c), undef, undef, undef, undef, undef, undef, undef, undef, undef, undef, undef, undef, undef], []⟩ [.code (Try.f26.body.getD .skip)] := by
    simp [Frame.enter, Frame.at, Try.func26, lsBase, Try.f26]
  rw [e]
  clear e
  simp only [Try.f26, Option.getD_some]
  refine lone_seq ?_
  refine lone_code ?_
  go_wp2
  refine lone_seq ?_
  refine lone_code ?_
  go_wp2
  refine lone_seq ?_
  refine lone_seq ?_
  refine lone_code ?_
  go_wp2
  refine lone_block ?_
  refine lone_loop ?_
  refine ls_round (w := w) (c := c) (n := n) (i := i) cs _ _ hcl l [] 0 _ (.slice none 0 0) w _ _ _ _ _ _ _ _ _ _ (by simp) (by simpa using hl) hc (World.ownsRow_nil _ _ _ _) (Only.refl _ _) ?_
  intro lv2 w2 x4 y6 y7 y8 y9 y10 y11 y12 y13 hown ho
  obtain ⟨sa, sc, rfl⟩ := owns_formA hown
  simp only [List.nil_append] at hown ⊢
  refine lone_seq ?_
  refine lone_code ?_
  go_wp2
  refine LoneTo.step (step_solo_go rfl stepG_ret') ?_
  exact LoneTo.done ⟨.returned (.slice sa l.length sc), _, rfl, ⟨_, rfl, hown, ho⟩, rfl, rfl, rfl, rfl, _, Try.func26, by simp [results, Try.f26, Frame.at]⟩
end Go.Proofs.Ytndlmgocldckfaa
