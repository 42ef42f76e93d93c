import Derived.Test.YtndlmgocldckfaaMks
namespace Go.Proofs.Ytndlmgocldckfaa
open Go.RowKit Go.Conc
set_option linter.unusedVariables false
set_option linter.unusedSimpArgs false

/-- The deferred close of a channel that is open. -/
theorem lone_close {P : Program} {Q : Goroutine → World → Prop} {b : Frame} {tmps : Array Value} {k : List Item} {cs : List Frame} {w : World} {c n i T : Nat} {buf : Array Value} {fl : Array Bool} (hc : w.heap[c]? = some (.chan n buf false i 0 false))
    (h : LoneTo P Q (G { b.at ⟨tmps, []⟩ k with mode := .returning } cs) (w.setChan c n buf true i 0 false)) :
    LoneTo P Q (G { b.at ⟨tmps, [{ target := .builtin .close #[T] 0 fl, args := #[.chan (some c)] }]⟩ k with mode := .returning } cs) w := by
  have hrun := fun ty => run_close_open (P := P) (w := w) #[T] ty hc
  have hst : ∃ es, stepG P true (G { b.at ⟨tmps, [{ target := .builtin .close #[T] 0 fl, args := #[.chan (some c)] }]⟩ k with mode := .returning } cs) w = .go (G { b.at ⟨tmps, []⟩ k with mode := .returning } cs) (w.setChan c n buf true i 0 false) es := by
    simp [stepG, unwind, callDeferred, invoke, builtin, G, Frame.at, hrun, Result.andThen, World.setChan]
    exact ⟨_, rfl⟩
  obtain ⟨es, hes⟩ := hst
  exact .step (step_solo_go rfl hes) h

set_option maxHeartbeats 4000000 in
set_option maxRecDepth 1000000 in
theorem ms_any {R : Nat → Prop} {base : Nat} {kb qb mb c n : Nat} {ov : Value} {ents : Int} {ks : List (List Ins)} {draws : List Int} {s : KS} (horizon : Int) (w : World) (h : KerP R base w kb qb mb ov ents ks draws s) (hok : KOk ents ks.length draws s) (hents : ents ≤ 8) (hk8 : ks.length ≤ 8) (hn : n ≤ 1000) (hbase : base ≤ w.heap.size)
    (hcode : ∀ l ∈ ks, l.length ≤ 16 ∧ ∀ x ∈ l, mayF ents ks.length x.op x.a x.b x.c = true) (hd : ∀ d ∈ draws, 0 ≤ d ∧ d ≤ 1000000000) (hc : w.heap[c]? = some (.chan n #[] false 0 0 false)) (hck : ¬ KSet kb qb mb ov c) (hcR : ¬ R c) :
    Calls Try.prog 25 #[.pointer (some ⟨kb, 0, none⟩), .int .i64 n, .int .i64 horizon, .chan (some c)] w fun e w' => e = .returned (.int .i64 (runF ks draws horizon n s).2.2) ∧
      ∃ sqb smb ov2 sov2 buf w2, MsInv R base w w2 kb qb mb c sqb smb ov ents ks draws n (runF ks draws horizon n s).2.1.length (runF ks draws horizon n s).1 ov2 sov2 buf (runF ks draws horizon n s).2.1 ∧ w' = w2.setChan c n buf true (runF ks draws horizon n s).2.1.length 0 false := by
  refine calls_of_loneTo (fun cs => ?_)
  have e : Frame.enter Try.prog 25 #[.pointer (some ⟨kb, 0, none⟩), .int .i64 n, .int .i64 horizon, .chan (some c)] .normal = msBase.at ⟨#[.pointer (some ⟨kb, 0, none⟩), .int .i64 n, .int .i64 horizon, .chan (some c), undef, undef, undef, undef, undef, undef, undef, undef, undef, undef, undef, undef, undef, undef, undef, undef, undef, undef, undef, undef, undef, undef, undef, undef, undef, undef], []⟩ [.code (Try.f25.body.getD .skip)] := by
    simp [Frame.enter, Frame.at, Try.func25, msBase, Try.f25]
  rw [e]
  clear e
  simp only [Try.f25, Option.getD_some]
  refine lone_seq ?_
  refine lone_code ?_
  go_wp2
  refine lone_seq ?_
  refine lone_code ?_
  go_wp2
  refine lone_seq ?_
  refine lone_code ?_
  go_wp2_with (go_at_call 48; refine (qNew_any _).mono ?_; rintro e w1 ⟨rfl, rfl⟩)
  refine lone_seq ?_
  refine lone_seq ?_
  refine lone_code ?_
  go_wp2
  refine lone_block ?_
  refine lone_loop ?_
  have hcl : c < w.heap.size := (Array.getElem?_eq_some_iff.1 hc).1
  have hbN : Below w.heap.size w ((w.alloc (.map #[] 0)).alloc (.cells #[.map (some w.heap.size), .slice none 0 0] 111)) := ((Below.refl _ _).alloc (Nat.le_refl _) _).alloc (by simp) _
  have hqN := queP_new w.heap.size w 111
  have hI0 : MsInv R base w ((w.alloc (.map #[] 0)).alloc (.cells #[.map (some w.heap.size), .slice none 0 0] 111)) kb qb mb c (w.heap.size + 1) w.heap.size ov ents ks draws n 0 s ov (.slice none 0 0) #[] [] := by
    refine ⟨Only.new hbN, .inl rfl, h.below hbN, hok, ⟨[], hqN⟩, ?_, ⟨fun b hb hc => ?_, fun b hb hc => ?_⟩, (hbN.block c hcl).trans hc, rfl, rfl, by simp, by simp, by simp, hck, hcl, hcR⟩
    · rintro b (rfl | rfl | hb)
      · omega
      · exact Nat.le_refl _
      · simp [Value.ownBlock] at hb
    · have := h.lt b hb
      rcases hc with rfl | rfl | hc
      · omega
      · omega
      · simp [Value.ownBlock] at hc
    · have := h.rlt b hb
      rcases hc with rfl | rfl | hc
      · omega
      · omega
      · simp [Value.ownBlock] at hc
  rcases hF : runF ks draws horizon n s with ⟨s2, rs, why⟩
  refine ms_round (R := R) (base := base) (w := w) (kb := kb) (qb := qb) (mb := mb) (c := c) (sqb := w.heap.size + 1) (smb := w.heap.size) (n := n) (ov := ov) (ents := ents) (ks := ks) (draws := draws) horizon hents hk8 hn hbase hcode hd cs _ _ _ n 0 s ov (.slice none 0 0) #[] [] _ _ _ _ _ _ _ _ _ _ _ _ _ _ _ _ _ _ (by omega) hI0 ?_ ?_
  · intro why' st2 rs' i2 ov2 sov2 buf2 w2 x10 x11 y16 y17 y18 y19 y20 y21 y22 y23 y24 y25 y26 y27 y28 y29 k2 hR hI2 hw
    rw [hF] at hR
    simp only [Prod.mk.injEq] at hR
    obtain ⟨rfl, rfl, rfl⟩ := hR
    simp only [List.nil_append] at hI2
    refine lone_close hI2.chan ?_
    exact LoneTo.done ⟨.returned (.int .i64 why), _, rfl, ⟨rfl, _, _, ov2, sov2, buf2, w2, hI2, rfl⟩, rfl, rfl, rfl, rfl, _, Try.func25, by simp [results, Try.f25, Frame.at]⟩
  · intro st2 rs' i2 ov2 sov2 buf2 w2 x8 x10 x11 y16 y17 y18 y19 y20 y21 y22 y23 y24 y25 y26 y27 y28 y29 hR hI2
    rw [hF] at hR
    simp only [Prod.mk.injEq] at hR
    obtain ⟨rfl, rfl, rfl⟩ := hR
    simp only [List.nil_append] at hI2
    refine lone_seq ?_
    refine lone_code ?_
    go_wp2
    refine LoneTo.step (step_solo_go rfl stepG_ret') ?_
    refine lone_close hI2.chan ?_
    exact LoneTo.done ⟨.returned (.int .i64 0), _, rfl, ⟨rfl, _, _, ov2, sov2, buf2, w2, hI2, rfl⟩, rfl, rfl, rfl, rfl, _, Try.func25, by simp [results, Try.f25, Frame.at]⟩
end Go.Proofs.Ytndlmgocldckfaa
