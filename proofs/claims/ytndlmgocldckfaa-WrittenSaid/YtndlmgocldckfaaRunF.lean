import Derived.Test.YtndlmgocldckfaaMks
namespace Go.Proofs.Ytndlmgocldckfaa
open Go.RowKit
set_option linter.unusedVariables false
set_option linter.unusedSimpArgs false

/-! What a run does, in plain lists: times do not fall, numbers of one time rise, none comes twice, why it ended. -/

def BefE (e x : Ev) : Prop := e.number ≠ x.number ∧ (e.time < x.time ∨ (e.time = x.time ∧ e.number < x.number))

/-- An event that has happened, and what may come behind it. -/
structure Past (e : Ev) (s : KS) : Prop where
  time : e.time ≤ s.clock
  num : e.number < s.next
  evs : ∀ x ∈ s.q, BefE e x

structure QOk (s : KS) : Prop where
  sorted : Sorted s.q
  dist : Distinct s.q

theorem doI_shape (draws : List Int) (E : Nat) (x : Ins) (s : KS) : (doI draws E x s).1.clock = s.clock ∧ s.taken ≤ (doI draws E x s).1.taken ∧ (doI draws E x s).1.taken ≤ s.taken + 1 ∧ (doI draws E x s).2.1.length ≤ 1 ∧
    ((doI draws E x s).2.2 = 0 ∨ (3 ≤ (doI draws E x s).2.2 ∧ (doI draws E x s).2.2 ≤ 5)) ∧ ((doI draws E x s).2.2 = 5 → draws.length ≤ s.taken) ∧
    (((doI draws E x s).1.q = s.q ∧ (doI draws E x s).1.next = s.next) ∨ (∃ v, (doI draws E x s).1.q = outF v s.q ∧ (doI draws E x s).1.next = s.next) ∨
      (∃ t k n, s.clock ≤ t ∧ (doI draws E x s).1.q = insF ⟨t, s.next, k, n⟩ s.q ∧ (doI draws E x s).1.next = s.next + 1)) := by
  unfold doI
  simp only
  by_cases o1 : x.op = 1
  · rw [if_pos o1]; exact ⟨rfl, by simp, by simp, by simp, by simp, by simp, .inl ⟨rfl, rfl⟩⟩
  rw [if_neg o1]
  by_cases o2 : x.op = 2
  · rw [if_pos o2]; exact ⟨rfl, by simp, by simp, by simp, by simp, by simp, .inl ⟨rfl, rfl⟩⟩
  rw [if_neg o2]
  by_cases o3 : x.op = 3
  · rw [if_pos o3]; exact ⟨rfl, by simp, by simp, by simp, by simp, by simp, .inl ⟨rfl, rfl⟩⟩
  rw [if_neg o3]
  by_cases o4 : x.op = 4
  · rw [if_pos o4]
    rcases hd : draws[s.taken]? with _ | d
    · exact ⟨rfl, by simp, by simp, by simp, by simp, fun _ => by simpa using hd, .inl ⟨rfl, rfl⟩⟩
    · exact ⟨rfl, by simp, by simp, by simp, by simp, by simp, .inl ⟨rfl, rfl⟩⟩
  rw [if_neg o4]
  by_cases o6 : x.op = 6
  · rw [if_pos o6]
    split
    · exact ⟨rfl, by simp, by simp, by simp, by simp, by simp, .inl ⟨rfl, rfl⟩⟩
    · split
      · exact ⟨rfl, by simp, by simp, by simp, by simp, by simp, .inl ⟨rfl, rfl⟩⟩
      · exact ⟨rfl, by simp, by simp, by simp, by simp, by simp, .inr (.inr ⟨_, _, _, by omega, rfl, rfl⟩)⟩
  rw [if_neg o6]
  by_cases o7 : x.op = 7
  · rw [if_pos o7]; exact ⟨rfl, by simp, by simp, by simp, by simp, by simp, .inr (.inl ⟨_, rfl, rfl⟩)⟩
  rw [if_neg o7]
  exact ⟨rfl, by simp, by simp, by simp, by simp, by simp, .inl ⟨rfl, rfl⟩⟩

theorem execF_indN {draws : List Int} {E : Nat} (M : Ins → Prop) (P : KS → Prop) (hstep : ∀ x s, M x → x.op ≠ 5 → P s → P (doI draws E x s).1) : ∀ (n : Nat) (l : List Ins) (s : KS) (told : List Int), l.length ≤ n → (∀ x ∈ l, M x) → P s → P (execF draws E l s told).1
  | _, [], s, told, hn, hm, h => by rw [execF_nil]; exact h
  | 0, x :: l, s, told, hn, hm, h => by simp at hn
  | n + 1, x :: l, s, told, hn, hm, h => by
    simp only [List.length_cons] at hn
    rw [execF_cons]
    by_cases h5 : x.op = 5
    · rw [if_pos h5]
      split
      · exact execF_indN M P hstep n (l.drop x.b.toNat) s told (by simp; omega) (fun y hy => hm y (List.mem_cons_of_mem _ (List.mem_of_mem_drop hy))) h
      · exact execF_indN M P hstep n l s told (by omega) (fun y hy => hm y (List.mem_cons_of_mem _ hy)) h
    · rw [if_neg h5]
      have h' := hstep x s (hm x (List.mem_cons_self ..)) h5 h
      rcases hd : doI draws E x s with ⟨s', t, why⟩
      rw [hd] at h'
      simp only
      split
      · exact execF_indN M P hstep n l s' _ (by omega) (fun y hy => hm y (List.mem_cons_of_mem _ hy)) h'
      · exact h'
theorem execF_ind {draws : List Int} {E : Nat} (M : Ins → Prop) (P : KS → Prop) (hstep : ∀ x s, M x → x.op ≠ 5 → P s → P (doI draws E x s).1) (l : List Ins) (s : KS) (told : List Int) (hm : ∀ x ∈ l, M x) (h : P s) : P (execF draws E l s told).1 :=
  execF_indN M P hstep l.length l s told (Nat.le_refl _) hm h

theorem execF_endsN {draws : List Int} {E : Nat} : ∀ (n : Nat) (l : List Ins) (s : KS) (told : List Int), l.length ≤ n → (execF draws E l s told).2.1.length ≤ told.length + l.length ∧ ((execF draws E l s told).2.2 = 0 ∨ (3 ≤ (execF draws E l s told).2.2 ∧ (execF draws E l s told).2.2 ≤ 5)) ∧ ((execF draws E l s told).2.2 = 5 → draws.length < s.taken + l.length)
  | _, [], s, told, hn => by rw [execF_nil]; simp
  | 0, x :: l, s, told, hn => by simp at hn
  | n + 1, x :: l, s, told, hn => by
    simp only [List.length_cons] at hn
    rw [execF_cons]
    by_cases h5 : x.op = 5
    · rw [if_pos h5]
      split
      · obtain ⟨h1, h2, h3⟩ := execF_endsN (draws := draws) (E := E) n (l.drop x.b.toNat) s told (by simp; omega)
        simp only [List.length_drop] at h1 h3
        exact ⟨by simp; omega, h2, fun h => by have := h3 h; simp; omega⟩
      · obtain ⟨h1, h2, h3⟩ := execF_endsN (draws := draws) (E := E) n l s told (by omega)
        exact ⟨by simp; omega, h2, fun h => by have := h3 h; simp; omega⟩
    · rw [if_neg h5]
      obtain ⟨_, _, d3, d4, d5, d6, _⟩ := doI_shape draws E x s
      rcases hd : doI draws E x s with ⟨s', t, why⟩
      rw [hd] at d3 d4 d5 d6
      simp only at d3 d4 d5 d6 ⊢
      split
      · obtain ⟨h1, h2, h3⟩ := execF_endsN (draws := draws) (E := E) n l s' (told ++ t) (by omega)
        simp only [List.length_append] at h1
        exact ⟨by simp; omega, h2, fun h => by have := h3 h; simp; omega⟩
      · exact ⟨by simp, d5, fun h => by have := d6 h; simp; omega⟩
theorem execF_ends {draws : List Int} {E : Nat} (l : List Ins) (s : KS) (told : List Int) : (execF draws E l s told).2.1.length ≤ told.length + l.length ∧ ((execF draws E l s told).2.2 = 0 ∨ (3 ≤ (execF draws E l s told).2.2 ∧ (execF draws E l s told).2.2 ≤ 5)) ∧ ((execF draws E l s told).2.2 = 5 → draws.length < s.taken + l.length) :=
  execF_endsN l.length l s told (Nat.le_refl _)

theorem doI_past {draws : List Int} {E : Nat} {x : Ins} {s : KS} {e : Ev} (h : Past e s) : Past e (doI draws E x s).1 := by
  obtain ⟨c, _, _, _, _, _, hq⟩ := doI_shape draws E x s
  rcases hq with ⟨hq, hn⟩ | ⟨v, hq, hn⟩ | ⟨t, k, n, ht, hq, hn⟩
  · exact ⟨by rw [c]; exact h.time, by rw [hn]; exact h.num, by rw [hq]; exact h.evs⟩
  · exact ⟨by rw [c]; exact h.time, by rw [hn]; exact h.num, fun y hy => by rw [hq] at hy; exact h.evs y ((outF_mem _ _ _).1 hy).1⟩
  · refine ⟨by rw [c]; exact h.time, by rw [hn]; have := h.num; omega, fun y hy => ?_⟩
    rw [hq] at hy
    rcases (insF_mem _ _ _).1 hy with rfl | hy
    · have := h.time
      have := h.num
      refine ⟨by simp; omega, ?_⟩
      simp
      omega
    · exact h.evs y hy

theorem doI_qok {draws : List Int} {E : Nat} {x : Ins} {s : KS} (h : QOk s) (hn : ∀ y ∈ s.q, y.number < s.next) : QOk (doI draws E x s).1 := by
  obtain ⟨c, _, _, _, _, _, hq⟩ := doI_shape draws E x s
  rcases hq with ⟨hq, _⟩ | ⟨v, hq, _⟩ | ⟨t, k, n, ht, hq, _⟩
  · exact ⟨by rw [hq]; exact h.sorted, by rw [hq]; exact h.dist⟩
  · exact ⟨by rw [hq]; exact outF_sorted h.sorted, by rw [hq]; exact outF_distinct h.dist⟩
  · have hne : ∀ y ∈ s.q, y.number ≠ s.next := fun y hy => by have := hn y hy; omega
    exact ⟨by rw [hq]; exact insF_sorted _ _ h.sorted hne, by rw [hq]; exact insF_distinct _ _ h.dist hne⟩

/-- All that a run keeps. -/
structure Fit (ents : Int) (ks : List (List Ins)) (draws : List Int) (s : KS) : Prop where
  ok : KOk ents ks.length draws s
  q : QOk s

def CodesOk (ents : Int) (ks : List (List Ins)) : Prop := ∀ l ∈ ks, l.length ≤ 16 ∧ ∀ x ∈ l, mayF ents ks.length x.op x.a x.b x.c = true
def DrawsOk (draws : List Int) : Prop := ∀ d ∈ draws, 0 ≤ d ∧ d ≤ 1000000000

section
variable {ents : Int} {ks : List (List Ins)} {draws : List Int} {s s' : KS} {e : Ev} {q : List Ev} {horizon : Int} {r : Rec} {why : Int}

theorem code_of (hc : CodesOk ents ks) (K : Nat) : (ks.getD K []).length ≤ 16 ∧ ∀ x ∈ ks.getD K [], mayF ents ks.length x.op x.a x.b x.c = true := by
  rcases h : ks[K]? with _ | l
  · simp [List.getD, h]
  · have := hc l (List.mem_of_getElem? h)
    simpa [List.getD, h] using this

theorem sorted_head (h : Sorted (e :: q)) (hd : Distinct (e :: q)) : ∀ x ∈ q, BefE e x := by
  intro x hx
  have h1 := (List.pairwise_cons.1 h).1 x hx
  have h2 := (List.pairwise_cons.1 hd).1 x hx
  refine ⟨h2, ?_⟩
  simpa [aheadF] using h1

/-- An event that was the first one has happened. -/
theorem happenF_fit (hc : CodesOk ents ks) (hd : DrawsOk draws) (h : Fit ents ks draws s) (hq : s.q = e :: q) :
    Fit ents ks draws (happenF ks draws e s).1 ∧ (happenF ks draws e s).1.clock = e.time ∧ Past e (happenF ks draws e s).1 ∧ (∀ p, Past p s → Past p (happenF ks draws e s).1) ∧ (happenF ks draws e s).2.1.length ≤ 16 ∧ ((happenF ks draws e s).2.2 = 0 ∨ (3 ≤ (happenF ks draws e s).2.2 ∧ (happenF ks draws e s).2.2 ≤ 5)) ∧ ((happenF ks draws e s).2.2 = 5 → draws.length < s.taken + 16) := by
  have hD : Distinct (e :: q) := hq ▸ h.q.dist
  have hS : Sorted (e :: q) := hq ▸ h.q.sorted
  have hout : outF e.number s.q = q := by rw [hq]; exact outF_head hD
  have hbef := sorted_head hS hD
  obtain ⟨hev1, hev2, hev3, hev4, hev5⟩ := h.ok.evs e (by rw [hq]; exact List.mem_cons_self ..)
  obtain ⟨hl, hm⟩ := code_of hc e.kind.toNat
  obtain ⟨k1, k2, k3, k4, k5, k6⟩ := h.ok
  unfold happenF
  rw [hout]
  have h0 : Fit ents ks draws { s with q := q, clock := e.time } := by
    refine ⟨⟨k1, ⟨by simp; omega, hev2⟩, k3, k4, ?_, ?_⟩, ⟨(List.pairwise_cons.1 hS).2, (List.pairwise_cons.1 hD).2⟩⟩
    · intro x hx
      have := k5 x (by rw [hq]; exact List.mem_cons_of_mem _ hx)
      have := (hbef x hx).2
      simp; omega
    · rw [hq] at k6; simp at k6 ⊢; omega
  obtain ⟨e1, e2, e3⟩ := execF_ends (draws := draws) (E := e.entity.toNat) (ks.getD e.kind.toNat []) { s with q := q, clock := e.time } []
  refine ⟨?_, ?_, ?_, ?_, ?_, e2, fun hh => ?_⟩
  · exact execF_ind (fun x => mayF ents ks.length x.op x.a x.b x.c = true) (fun st => Fit ents ks draws st)
      (fun x st hx h5 hst => ⟨doI_ok hst.ok hx h5 hd, doI_qok hst.q (fun y hy => (hst.ok.evs y hy).2.2.2.1)⟩) _ _ _ hm h0
  · exact execF_ind (fun _ => True) (fun st => st.clock = e.time) (fun x st _ _ hst => by rw [(doI_shape draws _ x st).1]; exact hst) _ _ _ (by simp) rfl
  · exact execF_ind (fun _ => True) (fun st => Past e st) (fun x st _ _ hst => doI_past hst) _ _ _ (by simp) ⟨Int.le_refl _, hev4, hbef⟩
  · intro p hp
    refine execF_ind (fun _ => True) (fun st => Past p st) (fun x st _ _ hst => doI_past hst) _ _ _ (by simp) ⟨?_, hp.num, fun x hx => hp.evs x (by rw [hq]; exact List.mem_cons_of_mem _ hx)⟩
    have := hp.time
    simp; omega
  · simp only [List.length_nil, Nat.zero_add] at e1; omega
  · have := e3 hh
    simp only at this; omega

theorem stepF_some (hs : stepF ks draws horizon s = (s', some r, why)) : ∃ q, s.q = r.e :: q ∧ r.e.time ≤ horizon ∧ why = 0 ∧ happenF ks draws r.e s = (s', r.told, 0) := by
  unfold stepF at hs
  split at hs
  · simp at hs
  · rename_i e q hq
    split at hs
    · simp at hs
    · rename_i hz
      rcases hh : happenF ks draws e s with ⟨t, told, w⟩
      rw [hh] at hs
      simp only at hs
      split at hs
      · rename_i hw
        simp only [Prod.mk.injEq, Option.some.injEq] at hs
        obtain ⟨rfl, rfl, rfl⟩ := hs
        exact ⟨q, hq, by simpa using hz, rfl, by simpa [hw] using hh⟩
      · simp at hs

theorem stepF_none (hc : CodesOk ents ks) (hd : DrawsOk draws) (h : Fit ents ks draws s) (hs : stepF ks draws horizon s = (s', none, why)) : s' = s ∧ (1 ≤ why ∧ why ≤ 5) ∧ (why = 1 → s.q = []) ∧ (why = 5 → draws.length < s.taken + 16) := by
  unfold stepF at hs
  split at hs
  · rename_i hq
    simp at hs
    obtain ⟨rfl, rfl⟩ := hs
    exact ⟨rfl, by simp, fun _ => hq, by simp⟩
  · rename_i e q hq
    split at hs
    · simp at hs
      obtain ⟨rfl, rfl⟩ := hs
      exact ⟨rfl, by simp, by simp, by simp⟩
    · have hh := happenF_fit hc hd h hq
      rcases he : happenF ks draws e s with ⟨t, told, w⟩
      rw [he] at hs hh
      simp only at hs hh
      split at hs
      · simp at hs
      · rename_i hw
        simp at hs
        obtain ⟨rfl, rfl⟩ := hs
        obtain ⟨_, _, _, _, _, h6, h7⟩ := hh
        exact ⟨rfl, by omega, fun h1 => by omega, h7⟩
end

section
variable {ents : Int} {ks : List (List Ins)} {draws : List Int}
/-- A whole run. -/
structure RunAll (ents : Int) (ks : List (List Ins)) (draws : List Int) (horizon : Int) (n : Nat) (s s' : KS) (rs : List Rec) (why : Int) : Prop where
  fit : Fit ents ks draws s'
  len : rs.length ≤ n
  ran : why = 0 ↔ rs.length = n
  whys : 0 ≤ why ∧ why ≤ 5
  empty : why = 1 → s'.q = []
  dry : why = 5 → draws.length < s'.taken + 16
  order : rs.Pairwise (fun a b => BefE a.e b.e)
  each : ∀ r ∈ rs, s.clock ≤ r.e.time ∧ r.e.time ≤ horizon ∧ 1 ≤ r.e.number ∧ r.told.length ≤ 16
  past : ∀ p, Past p s → Past p s' ∧ ∀ r ∈ rs, BefE p r.e
  clock : s'.clock = (rs.getLast?.map (fun r => r.e.time)).getD s.clock

theorem runF_all (hc : CodesOk ents ks) (hd : DrawsOk draws) (horizon : Int) : ∀ (n : Nat) (s : KS), Fit ents ks draws s →
    RunAll ents ks draws horizon n s (runF ks draws horizon n s).1 (runF ks draws horizon n s).2.1 (runF ks draws horizon n s).2.2
  | 0, s, h => by
    simp only [runF]
    exact ⟨h, by simp, by simp, by simp, by simp, by simp, by simp, by simp, fun p hp => ⟨hp, by simp⟩, by simp⟩
  | n + 1, s, h => by
    rcases hs : stepF ks draws horizon s with ⟨s1, _ | r, why⟩
    · obtain ⟨rfl, h2, h3, h4⟩ := stepF_none hc hd h hs
      have hF : runF ks draws horizon (n + 1) s1 = (s1, [], why) := by simp only [runF, hs]
      rw [hF]
      exact ⟨h, by simp, by simp; omega, by simp; omega, h3, h4, by simp, by simp, fun p hp => ⟨hp, by simp⟩, by simp⟩
    · obtain ⟨q, hq, hz, rfl, hh⟩ := stepF_some hs
      obtain ⟨f1, f2, f3, f4, f5, f6, f7⟩ := happenF_fit hc hd h hq
      rw [hh] at f1 f2 f3 f4 f5
      simp only at f1 f2 f3 f4 f5
      have ih := runF_all hc hd horizon n s1 f1
      have hev := h.ok.evs r.e (by rw [hq]; exact List.mem_cons_self ..)
      rcases hr : runF ks draws horizon n s1 with ⟨s2, rs, w⟩
      have hF : runF ks draws horizon (n + 1) s = (s2, r :: rs, w) := by simp only [runF, hs, hr]
      rw [hF]
      rw [hr] at ih
      obtain ⟨i1, i2, i3, i4, i5, i6, i7, i8, i9, i10⟩ := ih
      have hp3 := i9 r.e f3
      refine ⟨i1, by simpa using i2, by simpa using i3, i4, i5, i6, ?_, ?_, ?_, ?_⟩
      · exact List.pairwise_cons.2 ⟨fun x hx => hp3.2 x hx, i7⟩
      · intro x hx
        rcases List.mem_cons.1 hx with rfl | hx
        · exact ⟨hev.1, hz, hev.2.2.1, f5⟩
        · have := i8 x hx
          have := hev.1
          exact ⟨by omega, by omega, by omega, by omega⟩
      · intro p hp
        refine ⟨(i9 p (f4 p hp)).1, fun x hx => ?_⟩
        rcases List.mem_cons.1 hx with rfl | hx
        · exact hp.evs _ (by rw [hq]; exact List.mem_cons_self ..)
        · exact (i9 p (f4 p hp)).2 x hx
      · simp only at i10 ⊢
        rw [i10]
        rcases rs with _ | ⟨r2, rs⟩
        · simp [f2]
        · rw [List.getLast?_cons_cons]
          rcases hl : (r2 :: rs).getLast? with _ | z
          · simp at hl
          · rfl
end
end Go.Proofs.Ytndlmgocldckfaa
