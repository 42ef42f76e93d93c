import Derived.Test.YtndlmgocldckfaaKer
namespace Go.Proofs.Ytndlmgocldckfaa
open Go.RowKit
set_option linter.unusedVariables false
set_option linter.unusedSimpArgs false

set_option maxHeartbeats 1000000 in
set_option maxRecDepth 100000 in
theorem draw_none {R : Nat → Prop} {base : Nat} (kb qb mb : Nat) (ov : Value) (ents : Int) (ks : List (List Ins)) (draws : List Int) (s : KS) (m : Int) (w : World) (h : KerP R base w kb qb mb ov ents ks draws s) (hl : s.taken = draws.length) :
    Calls Try.prog 81 #[.pointer (some ⟨kb, 0, none⟩), .int .i64 m] w fun e w' => e = .returned (.tuple #[.int .i64 0, .int .i64 5]) ∧ Below w.heap.size w w' := by
  obtain ⟨dv, h2, hd⟩ := h.draw
  obtain ⟨da, dc, rfl⟩ := hd.form
  have h6 := h.c6
  have hdl := hd.1
  rw [hl] at h6
  clear h hd hl
  go_enter Try.func81, Try.ntmps81
  go_wp2
  go_quiet (fail)
  go_wp2
  go_ret2
  exact ⟨rfl, below_drewN (Below.refl _ _) _⟩

set_option maxHeartbeats 2000000 in
set_option maxRecDepth 100000 in
theorem draw_some {R : Nat → Prop} {base : Nat} (kb qb mb : Nat) (ov : Value) (ents : Int) (ks : List (List Ins)) (draws : List Int) (s : KS) (m d : Int) (w : World) (h : KerP R base w kb qb mb ov ents ks draws s) (hd1 : draws[s.taken]? = some d) (hm : 1 ≤ m ∧ m ≤ 1000000000) (hdr : 0 ≤ d ∧ d ≤ 1000000000) :
    Calls Try.prog 81 #[.pointer (some ⟨kb, 0, none⟩), .int .i64 m] w fun e w' => e = .returned (.tuple #[.int .i64 (d % m), .int .i64 0]) ∧ Only (· = kb) w w' ∧ KerP R base w' kb qb mb ov ents ks draws { s with taken := s.taken + 1 } := by
  have H := hide h
  obtain ⟨dv, h2, hd⟩ := h.draw
  have hlt : s.taken < draws.length := (List.getElem?_eq_some_iff.1 hd1).1
  obtain ⟨hdl, ⟨_, h0⟩ | ⟨db, off, cap, rfl, hR, hrow⟩⟩ := hd
  · rw [h0] at hlt; simp at hlt
  have hc := hrow s.taken (.int .i64 d) (by simp [ints, hd1])
  have h6 := h.c6
  have hf6 := (h.room 6 (by omega)).2
  have hset := h.setTaken (s.taken + 1)
  have Hset := hide hset
  have e1 : ((s.taken : Int) == (draws.length : Int)) = false := by simp; omega
  have e2 : (s.taken : Int) < (draws.length : Int) := by omega
  obtain ⟨m1, m2⟩ := hm
  obtain ⟨d1, d2⟩ := hdr
  have e3 : (m == 0) = false := by simp; omega
  have e4 := Int.emod_lt_of_pos d (show 0 < m by omega)
  have e5 := Int.emod_nonneg d (show m ≠ 0 by omega)
  have hw : IntKind.i64.wrap (d % m) = d % m := by rw [IntKind.wrap_i64]; omega
  clear h hrow hset hd1 hR
  go_enter Try.func81, Try.ntmps81
  go_wp2
  go_quiet (fail)
  go_wp2
  go_quiet (fail)
  go_wp2
  go_ret2
  refine ⟨rfl, (Only.new (below_drewN (Below.refl _ _) _)).trans (Only.setCell (S := (· = kb)) (Only.refl _ _) (p := ⟨kb, 6, none⟩) rfl _), ?_⟩
  exact (H.out.below (below_drewN (Below.refl _ _) _)).setTaken (s.taken + 1)

set_option maxHeartbeats 1000000 in
set_option maxRecDepth 100000 in
theorem hasRoom_any {R : Nat → Prop} {base : Nat} (kb qb mb : Nat) (ov : Value) (ents : Int) (ks : List (List Ins)) (draws : List Int) (s : KS) (w : World) (h : KerP R base w kb qb mb ov ents ks draws s) :
    Calls Try.prog 43 #[.pointer (some ⟨kb, 0, none⟩)] w fun e w' => e = .returned (.bool (decide (s.q.length < 16 ∧ s.next < 1000000000))) ∧ w' = w := by
  have h3 := h.c3
  have h5 := h.c5
  have hq := h.que
  have hl := hq.len
  have Hq := hide hq
  clear h hq
  by_cases h16 : s.q.length < 16
  · have e1 : decide (16 ≤ (s.q.length : Int)) = false := by simp; omega
    go_enter Try.func43, Try.ntmps43
    go_wp2_with (go_at_call 62; refine (qFull_any qb mb ov s.q _ Hq.out).mono ?_; rintro e w' ⟨rfl, rfl⟩; rw [e1])
    go_ret
    exact ⟨by simp [h16], rfl⟩
  · have e1 : decide (16 ≤ (s.q.length : Int)) = true := by simp; omega
    go_enter Try.func43, Try.ntmps43
    go_wp2_with (go_at_call 62; refine (qFull_any qb mb ov s.q _ Hq.out).mono ?_; rintro e w' ⟨rfl, rfl⟩; rw [e1])
    go_ret
    exact ⟨by simp [h16], rfl⟩

theorem Moved.trans {w w' : World} {a b c : Value} (h : Moved w a b) (h' : Moved w' b c) (hs : w.heap.size ≤ w'.heap.size) : Moved w a c := by
  rcases h' with e | ⟨g, e, hg⟩
  · rcases h with e' | ⟨g', e', hg'⟩
    · exact .inl (e.trans e')
    · exact .inr ⟨g', e.trans e', hg'⟩
  · exact .inr ⟨g, e, by omega⟩

set_option maxHeartbeats 2000000 in
set_option maxRecDepth 100000 in
theorem put_any {R : Nat → Prop} {base : Nat} (kb qb mb : Nat) (ov : Value) (ents : Int) (ks : List (List Ins)) (draws : List Int) (s : KS) (time kind ent : Int) (w : World) (h : KerP R base w kb qb mb ov ents ks draws s) (hbase : base ≤ w.heap.size) (hl : s.q.length < 16) (hn : ∀ x ∈ s.q, x.number < s.next) (hn2 : 1 ≤ s.next ∧ s.next < 1000000000) :
    Calls Try.prog 44 #[.pointer (some ⟨kb, 0, none⟩), .int .i64 time, .int .i64 kind, .int .i64 ent] w
      fun e w' => ∃ ov', e = .returned (.int .i64 s.next) ∧ Only (KSet kb qb mb ov) w w' ∧ Moved w ov ov' ∧ KerP R base w' kb qb mb ov' ents ks draws { s with q := insF ⟨time, s.next, kind, ent⟩ s.q, next := s.next + 1 } := by
  have H := hide h
  have h3 := h.c3
  have h5 := h.c5
  have hq := h.que
  have hkl := h.klt
  have Hn : Hid (∀ x ∈ s.q, x.number ≠ s.next) := fun x hx => by have := hn x hx; omega
  have hkq := h.kq
  have Hq := hide hq
  have Hkq := hide hkq
  have hf5 := (h.room 5 (by omega)).2
  obtain ⟨n1, n2⟩ := hn2
  clear h hq hn hkq
  go_enter Try.func44, Try.ntmps44
  go_wp2_with (go_at_call 63; refine (qPut_any qb mb ov s.q ⟨time, s.next, kind, ent⟩ _ Hq.out hbase hl Hn.out).mono ?_; rintro e w1 ⟨ov1, rfl, ho1, hq1, hm1⟩; (have k5 := ho1.at h5 Hkq.out); (have kf : w1.frozen? ⟨kb, 5, none⟩ = false := (World.frozen?_of_block (w := w) (a := ⟨kb, 5, none⟩) (ho1.block kb hkl Hkq.out)).trans hf5))
  go_ret
  exact ⟨ov1, rfl, (ho1.mono (fun k _ hk => .inr hk)).setCell (.inl rfl) _, hm1, (H.out.queue ho1 hq1 hm1).setNext (s.next + 1)⟩

set_option maxHeartbeats 2000000 in
set_option maxRecDepth 100000 in
theorem planIn_full {R : Nat → Prop} {base : Nat} (kb qb mb : Nat) (ov : Value) (ents : Int) (ks : List (List Ins)) (draws : List Int) (s : KS) (ticks kind ent : Int) (w : World) (h : KerP R base w kb qb mb ov ents ks draws s) (hf : ¬ (s.q.length < 16 ∧ s.next < 1000000000)) :
    Calls Try.prog 82 #[.pointer (some ⟨kb, 0, none⟩), .int .i64 ticks, .int .i64 kind, .int .i64 ent] w fun e w' => e = .returned (.tuple #[.int .i64 0, .int .i64 3]) ∧ w' = w := by
  have e1 : decide (s.q.length < 16 ∧ s.next < 1000000000) = false := by simpa using hf
  go_enter Try.func82, Try.ntmps82
  go_wp2_with (go_at_call 43; refine (hasRoom_any kb qb mb ov ents ks draws s _ h).mono ?_; rintro e w' ⟨rfl, rfl⟩; rw [e1])
  go_ret2
  exact ⟨rfl, rfl⟩

set_option maxHeartbeats 2000000 in
set_option maxRecDepth 100000 in
theorem planIn_late {R : Nat → Prop} {base : Nat} (kb qb mb : Nat) (ov : Value) (ents : Int) (ks : List (List Ins)) (draws : List Int) (s : KS) (ticks kind ent : Int) (w : World) (h : KerP R base w kb qb mb ov ents ks draws s) (hf : s.q.length < 16 ∧ s.next < 1000000000) (hc : 0 ≤ s.clock ∧ s.clock ≤ 1000000000000) (ht : -1000000000 ≤ ticks ∧ ticks ≤ 1000000000) (hl : 1000000000000 < s.clock + max ticks 0) :
    Calls Try.prog 82 #[.pointer (some ⟨kb, 0, none⟩), .int .i64 ticks, .int .i64 kind, .int .i64 ent] w fun e w' => e = .returned (.tuple #[.int .i64 0, .int .i64 4]) ∧ w' = w := by
  have e1 : decide (s.q.length < 16 ∧ s.next < 1000000000) = true := by simpa using hf
  have h4 := h.c4
  have H := hide h
  obtain ⟨c1, c2⟩ := hc
  obtain ⟨t1, t2⟩ := ht
  obtain ⟨M, hM⟩ : ∃ M, M = max ticks 0 := ⟨_, rfl⟩
  rw [← hM] at hl
  have m1 : 0 ≤ M := by omega
  have m2 : M ≤ 1000000000 := by omega
  have e2 : decide (1000000000000 < s.clock + M) = true := by simpa using hl
  have hM' : (if ticks < 0 then (0 : Int) else ticks) = M := by rw [hM]; split <;> omega
  clear h hf
  go_enter Try.func82, Try.ntmps82
  go_wp2_with (go_at_call 43; refine (hasRoom_any kb qb mb ov ents ks draws s _ H.out).mono ?_; rintro e w' ⟨rfl, rfl⟩; rw [e1])
  go_ret2
  exact ⟨rfl, rfl⟩

set_option maxHeartbeats 2000000 in
set_option maxRecDepth 100000 in
theorem planIn_ok {R : Nat → Prop} {base : Nat} (kb qb mb : Nat) (ov : Value) (ents : Int) (ks : List (List Ins)) (draws : List Int) (s : KS) (ticks kind ent : Int) (w : World) (h : KerP R base w kb qb mb ov ents ks draws s) (hbase : base ≤ w.heap.size) (hf : s.q.length < 16 ∧ s.next < 1000000000) (hc : 0 ≤ s.clock ∧ s.clock ≤ 1000000000000) (ht : -1000000000 ≤ ticks ∧ ticks ≤ 1000000000) (hl : ¬ 1000000000000 < s.clock + max ticks 0) (hn : ∀ x ∈ s.q, x.number < s.next) (hn1 : 1 ≤ s.next) :
    Calls Try.prog 82 #[.pointer (some ⟨kb, 0, none⟩), .int .i64 ticks, .int .i64 kind, .int .i64 ent] w
      fun e w' => e = .returned (.tuple #[.int .i64 s.next, .int .i64 0]) ∧ Only (KSet kb qb mb ov) w w' ∧ ∃ ov', Moved w ov ov' ∧ KerP R base w' kb qb mb ov' ents ks draws { s with q := insF ⟨s.clock + max ticks 0, s.next, kind, ent⟩ s.q, next := s.next + 1 } := by
  have e1 : decide (s.q.length < 16 ∧ s.next < 1000000000) = true := by simpa using hf
  have h4 := h.c4
  have H := hide h
  obtain ⟨c1, c2⟩ := hc
  obtain ⟨t1, t2⟩ := ht
  obtain ⟨f1, f2⟩ := hf
  have Hn := hide hn
  clear h hn
  have e9 : max ticks 0 = if ticks < 0 then (0 : Int) else ticks := by split <;> omega
  rw [e9] at hl ⊢
  have e2 : decide (1000000000000 < s.clock + if ticks < 0 then (0 : Int) else ticks) = false := by simpa using hl
  clear e9
  go_enter Try.func82, Try.ntmps82
  go_wp2_with (first | (go_at_call 43; refine (hasRoom_any kb qb mb ov ents ks draws s _ H.out).mono ?_; rintro e w' ⟨rfl, rfl⟩; rw [e1]) | (go_at_call 44; refine (put_any kb qb mb ov ents ks draws s _ kind ent _ H.out hbase f1 Hn.out ⟨hn1, f2⟩).mono ?_; rintro e w1 ⟨ov1, rfl, ho1, hm1, hk1⟩))
  all_goals
    go_ret2
    first
    | exact ⟨rfl, ho1, ov1, hm1, hk1⟩
    | (have h00 : ticks < 0 := by assumption
       (try rw [if_pos h00, Int.add_zero] at hk1)
       (try simp only [if_pos h00, Int.add_zero])
       exact ⟨rfl, ho1, ov1, hm1, hk1⟩)
    | (have h00 : ¬ ticks < 0 := by omega
       (try rw [if_neg h00] at hk1)
       (try simp only [if_neg h00])
       exact ⟨rfl, ho1, ov1, hm1, hk1⟩)

set_option maxHeartbeats 400000 in
theorem cut_any (n : Int) (w : World) (hn : -9000000000000000000 ≤ n ∧ n ≤ 9000000000000000000) :
    Calls Try.prog 80 #[.int .i64 n] w fun e w' => e = .returned (.int .i64 (cutF n)) ∧ w' = w := by
  obtain ⟨n1, n2⟩ := hn
  by_cases h1 : n < -1000000000
  · go_enter Try.func80, Try.ntmps80
    go_wp2
    all_goals
      go_ret
      exact ⟨by simp [cutF]; omega, rfl⟩
  · by_cases h2 : n ≤ 1000000000
    · go_enter Try.func80, Try.ntmps80
      go_wp2
      all_goals
        go_ret
        exact ⟨by simp [cutF]; omega, rfl⟩
    · go_enter Try.func80, Try.ntmps80
      go_wp2
      all_goals
        go_ret
        exact ⟨by simp [cutF]; omega, rfl⟩

/-- What 'planIn' makes of a state: the state, the number that comes out, and why it cannot. -/
def planF (s : KS) (ticks kind ent : Int) : KS × Int × Int :=
  if ¬ (s.q.length < 16 ∧ s.next < 1000000000) then (s, 0, 3)
  else if 1000000000000 < s.clock + max ticks 0 then (s, 0, 4)
  else ({ s with q := insF ⟨s.clock + max ticks 0, s.next, kind, ent⟩ s.q, next := s.next + 1 }, s.next, 0)
def drawF (draws : List Int) (s : KS) (m : Int) : KS × Int × Int :=
  match draws[s.taken]? with
  | none => (s, 0, 5)
  | some d => ({ s with taken := s.taken + 1 }, d % m, 0)

theorem planIn_any {R : Nat → Prop} {base : Nat} (kb qb mb : Nat) (ov : Value) (ents : Int) (ks : List (List Ins)) (draws : List Int) (s : KS) (ticks kind ent : Int) (w : World) (h : KerP R base w kb qb mb ov ents ks draws s) (hbase : base ≤ w.heap.size) (nk : Nat) (hok : KOk ents nk draws s) (ht : -1000000000 ≤ ticks ∧ ticks ≤ 1000000000) :
    Calls Try.prog 82 #[.pointer (some ⟨kb, 0, none⟩), .int .i64 ticks, .int .i64 kind, .int .i64 ent] w
      fun e w' => e = .returned (.tuple #[.int .i64 (planF s ticks kind ent).2.1, .int .i64 (planF s ticks kind ent).2.2]) ∧ Only (KSet kb qb mb ov) w w' ∧ ∃ ov', Moved w ov ov' ∧ KerP R base w' kb qb mb ov' ents ks draws (planF s ticks kind ent).1 := by
  by_cases hf : s.q.length < 16 ∧ s.next < 1000000000
  · by_cases hl : 1000000000000 < s.clock + max ticks 0
    · have e : planF s ticks kind ent = (s, 0, 4) := by simp only [planF]; rw [if_neg (by simpa using hf), if_pos hl]
      rw [e]
      refine (planIn_late kb qb mb ov ents ks draws s ticks kind ent w h hf hok.clock ht hl).mono ?_
      rintro e' w' ⟨rfl, rfl⟩
      exact ⟨rfl, Only.refl _ _, ov, .inl rfl, h⟩
    · have e : planF s ticks kind ent = ({ s with q := insF ⟨s.clock + max ticks 0, s.next, kind, ent⟩ s.q, next := s.next + 1 }, s.next, 0) := by simp only [planF]; rw [if_neg (by simpa using hf), if_neg hl]
      rw [e]
      exact planIn_ok kb qb mb ov ents ks draws s ticks kind ent w h hbase hf hok.clock ht hl (fun x hx => (hok.evs x hx).2.2.2.1) hok.next.1
  · have e : planF s ticks kind ent = (s, 0, 3) := by simp only [planF]; rw [if_pos hf]
    rw [e]
    refine (planIn_full kb qb mb ov ents ks draws s ticks kind ent w h hf).mono ?_
    rintro e' w' ⟨rfl, rfl⟩
    exact ⟨rfl, Only.refl _ _, ov, .inl rfl, h⟩

theorem draw_any {R : Nat → Prop} {base : Nat} (kb qb mb : Nat) (ov : Value) (ents : Int) (ks : List (List Ins)) (draws : List Int) (s : KS) (m : Int) (w : World) (h : KerP R base w kb qb mb ov ents ks draws s) (nk : Nat) (hok : KOk ents nk draws s) (hm : 1 ≤ m ∧ m ≤ 1000000000) (hd : ∀ d ∈ draws, 0 ≤ d ∧ d ≤ 1000000000) :
    Calls Try.prog 81 #[.pointer (some ⟨kb, 0, none⟩), .int .i64 m] w
      fun e w' => e = .returned (.tuple #[.int .i64 (drawF draws s m).2.1, .int .i64 (drawF draws s m).2.2]) ∧ Only (· = kb) w w' ∧ KerP R base w' kb qb mb ov ents ks draws (drawF draws s m).1 := by
  rcases hdd : draws[s.taken]? with _ | d
  · have e : drawF draws s m = (s, 0, 5) := by simp only [drawF, hdd]
    rw [e]
    have hl := List.getElem?_eq_none_iff.1 hdd
    refine (draw_none kb qb mb ov ents ks draws s m w h (by have := hok.taken; omega)).mono ?_
    rintro e' w' ⟨rfl, hb⟩
    exact ⟨rfl, Only.new hb, h.below hb⟩
  · have e : drawF draws s m = ({ s with taken := s.taken + 1 }, d % m, 0) := by simp only [drawF, hdd]
    rw [e]
    exact draw_some kb qb mb ov ents ks draws s m d w h hdd hm (hd d (List.mem_of_getElem? hdd))
end Go.Proofs.Ytndlmgocldckfaa
