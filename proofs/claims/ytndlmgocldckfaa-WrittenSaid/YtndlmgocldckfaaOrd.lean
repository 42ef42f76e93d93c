import Derived.Test.YtndlmgocldckfaaHeapP
namespace Go.Proofs.Ytndlmgocldckfaa
open Go.RowKit
set_option linter.unusedVariables false
set_option linter.unusedSimpArgs false

theorem Try.infoM : (Try.prog.info? 145).map (fun i => (i.zero, i.size, i.bytes)) = some (some (.agg #[.int .i64 0, .int .i64 0]), 2, 16) := by kernel_rfl

def momCells (f : Nat → Mom) (n : Nat) : List Value := (List.range (n * 2)).map fun j => if j % 2 = 0 then .int .i64 (f (j / 2)).time else .int .i64 (f (j / 2)).number
theorem momCells_length (f : Nat → Mom) (n : Nat) : (momCells f n).length = n * 2 := by simp [momCells]
theorem momCells_get (f : Nat → Mom) (n i : Nat) (h : i < n) : (momCells f n)[i * 2]? = some (.int .i64 (f i).time) ∧ (momCells f n)[i * 2 + 1]? = some (.int .i64 (f i).number) := by
  refine ⟨?_, ?_⟩
  · simp [momCells]
    refine ⟨i * 2, ?_, ?_⟩
    · rw [List.getElem?_range (by omega)]
    · simp
  · simp [momCells]
    refine ⟨i * 2 + 1, ?_, ?_⟩
    · rw [List.getElem?_range (by omega)]
    · simp [show (i * 2 + 1) % 2 = 1 by omega, show (i * 2 + 1) / 2 = i by omega]
theorem momCells_one (f : Nat → Mom) (n : Nat) : ∀ u ∈ momCells f n, u.oneCell' = true := by
  intro u hu
  simp [momCells] at hu
  obtain ⟨j, _, rfl⟩ := hu
  split <;> rfl
theorem MomIn.cells {cur : Array Value} {f : Nat → Mom} {n : Nat} (h : MomIn cur f n) (hs : n * 2 ≤ cur.size) : cur.toList.take (n * 2) = momCells f n := by
  apply List.ext_getElem?
  intro j
  by_cases hj : j < n * 2
  · rw [List.getElem?_take, if_pos hj, Array.getElem?_toList]
    have h1 := momCells_get f n (j / 2) (by omega)
    have h2 := h (j / 2) (by omega)
    have : j % 2 = 0 ∨ j % 2 = 1 := by omega
    rcases this with h0 | h0
    · have e : j / 2 * 2 = j := by omega
      rw [e] at h1 h2
      rw [h1.1, h2.1]
    · have e : j / 2 * 2 + 1 = j := by omega
      rw [e] at h1 h2
      rw [h1.2, h2.2]
  · rw [List.getElem?_eq_none (by simp; omega), List.getElem?_eq_none (by rw [momCells_length]; omega)]
theorem MomIn.of {cur : Array Value} {f : Nat → Mom} {n : Nat} (h : cur.toList.take (n * 2) = momCells f n) : MomIn cur f n := by
  intro i hi
  have h1 := momCells_get f n i hi
  rw [← h] at h1
  rw [List.getElem?_take, if_pos (by omega), List.getElem?_take, if_pos (by omega)] at h1
  simpa using h1
theorem momCells_snoc (f : Nat → Mom) (n : Nat) (m : Mom) : momCells (putF f n m) (n + 1) = momCells f n ++ [.int .i64 m.time, .int .i64 m.number] := by
  apply List.ext_getElem?
  intro j
  by_cases hj : j < n * 2
  · rw [List.getElem?_append_left (by rw [momCells_length]; exact hj)]
    have h1 := momCells_get (putF f n m) (n + 1) (j / 2) (by omega)
    have h2 := momCells_get f n (j / 2) (by omega)
    have hne : j / 2 ≠ n := by omega
    have : j % 2 = 0 ∨ j % 2 = 1 := by omega
    rcases this with h0 | h0
    · have e : j / 2 * 2 = j := by omega
      rw [e] at h1 h2
      rw [h1.1, h2.1]; simp [putF, hne]
    · have e : j / 2 * 2 + 1 = j := by omega
      rw [e] at h1 h2
      rw [h1.2, h2.2]; simp [putF, hne]
  · rw [List.getElem?_append_right (by rw [momCells_length]; omega), momCells_length]
    have h1 := momCells_get (putF f n m) (n + 1) n (by omega)
    by_cases h0 : j = n * 2
    · subst h0; rw [h1.1]; simp [putF]
    · by_cases h0' : j = n * 2 + 1
      · subst h0'; rw [h1.2]; simp [putF, show n * 2 + 1 - n * 2 = 1 by omega]
      · rw [List.getElem?_eq_none (by rw [momCells_length]; omega), List.getElem?_eq_none (by simp; omega)]

/-- A slice of moments of the queue's own. -/
def OrdV (base : Nat) (w : World) (v : Value) (n : Nat) (f : Nat → Mom) : Prop :=
  (v = .slice none 0 0 ∧ n = 0) ∨ ∃ b cap, v = .slice (some ⟨b, 0, none⟩) n cap ∧ base ≤ b ∧ n ≤ cap ∧ cap ≤ maxLen ∧ RowB w b 145 (cap * 2) f n

theorem OrdV.owns {base : Nat} {w : World} {v : Value} {n : Nat} {f : Nat → Mom} (h : OrdV base w v n f) : w.ownsRow base 145 2 v n (momCells f n) := by
  refine ⟨momCells_length f n, ?_⟩
  rcases h with h | ⟨b, cap, rfl, hb, h1, h2, cur, h3, h4, h5⟩
  · exact .inl h
  · exact .inr ⟨b, cap, cur, rfl, hb, h3, h1, h2, h4, h5.cells (by rw [h4]; exact Nat.mul_le_mul_right _ h1)⟩
theorem OrdV.of {base : Nat} {w : World} {v : Value} {n : Nat} {f : Nat → Mom} (h : w.ownsRow base 145 2 v n (momCells f n)) : OrdV base w v n f := by
  obtain ⟨_, h | ⟨g, cap, cur, rfl, hb, hg, h1, h2, h3, h4⟩⟩ := h
  · exact .inl h
  · exact .inr ⟨g, cap, rfl, hb, h1, h2, cur, hg, h3, MomIn.of h4⟩
theorem OrdV.below {base : Nat} {w w' : World} {v : Value} {n : Nat} {f : Nat → Mom} (h : OrdV base w v n f) (hb : Below w.heap.size w w') : OrdV base w' v n f := by
  rcases h with h | ⟨b, cap, rfl, h0, h1, h2, h3⟩
  · exact .inl h
  · exact .inr ⟨b, cap, rfl, h0, h1, h2, h3.below hb⟩
theorem OrdV.only {base : Nat} {w w' : World} {v : Value} {n : Nat} {f : Nat → Mom} {U : Nat → Prop} (h : OrdV base w v n f) (ho : Only U w w') (hU : ∀ b, some b = v.ownBlock → ¬ U b) : OrdV base w' v n f := by
  rcases h with h | ⟨b, cap, rfl, h0, h1, h2, h3⟩
  · exact .inl h
  · exact .inr ⟨b, cap, rfl, h0, h1, h2, h3.only ho (hU b rfl)⟩
theorem OrdV.lt {base : Nat} {w : World} {v : Value} {n : Nat} {f : Nat → Mom} (h : OrdV base w v n f) : ∀ b, some b = v.ownBlock → base ≤ b ∧ b < w.heap.size := by
  rcases h with ⟨rfl, _⟩ | ⟨b, cap, rfl, h0, h1, h2, h3⟩
  · intro b hb; simp [Value.ownBlock] at hb
  · intro b' hb; simp [Value.ownBlock] at hb; subst hb; exact ⟨h0, h3.lt⟩
theorem OrdV.form {base : Nat} {w : World} {v : Value} {n : Nat} {f : Nat → Mom} (h : OrdV base w v n f) : ∃ sa sc, v = .slice sa n sc := by
  rcases h with ⟨rfl, rfl⟩ | ⟨b, cap, rfl, _⟩
  · exact ⟨_, _, rfl⟩
  · exact ⟨_, _, rfl⟩

theorem RiseF.last {f : Nat → Mom} {n : Nat} (h : HeapF f n) (m : Mom) : RiseF (putF f n m) (n + 1) n := by
  refine ⟨?_, ?_⟩
  · intro j hj hjn hne
    simp [putF, hne, show (j - 1) / 2 ≠ n by omega]
    exact h j hj (by omega)
  · intro j hn hj hjn hp
    omega

set_option maxHeartbeats 2000000 in
set_option maxRecDepth 100000 in
theorem with_any (base : Nat) (v : Value) (n : Nat) (f : Nat → Mom) (m : Mom) (q : List Ev) (w : World) (hv : OrdV base w v n f) (hh : HeapF f n) (hn : n ≤ 16) (hm : MomsOf (putF f n m) (n + 1) q) (hbase : base ≤ w.heap.size) :
    Calls Try.prog 75 #[v, .agg #[.int .i64 m.time, .int .i64 m.number]] w fun e w' => ∃ v' f', e = .returned v' ∧ OrdV base w' v' (n + 1) f' ∧ HeapF f' (n + 1) ∧ MomsOf f' (n + 1) q ∧
      Only (fun b => some b = v.ownBlock) w w' ∧ (v'.ownBlock = v.ownBlock ∨ ∃ g, v'.ownBlock = some g ∧ w.heap.size ≤ g) := by
  have Hown := hide hv.owns
  have hlt := hide hv.lt
  obtain ⟨sa, sc, rfl⟩ := hv.form
  clear hv
  go_enter Try.func75, Try.ntmps75
  go_wp2_with (at_builtin; refine wpList_append_src rfl (.tmp 5) (.tmp 7) 109 rfl base 145 (.agg #[.int .i64 0, .int .i64 0]) 2 16 Try.underlying109 Try.infoM rfl (by omega) _ n (momCells f n) rfl ((Hown.out.alloc _).alloc _) _ 1 [.int .i64 m.time, .int .i64 m.number] rfl (.inr (.inl ⟨w.heap.size + 1, 0, _, rfl, ?_⟩)) rfl (by simp [Value.oneCell']) (by omega) (by omega) (by simp; omega) ?_)
  · intro j u hu
    have hj : j < 2 := by have := (List.getElem?_eq_some_iff.1 hu).1; simpa using this
    have : j = 0 ∨ j = 1 := by omega
    rcases this with rfl | rfl <;> simp at hu <;> subst hu <;> simp [go_sem]
  intro v1 w1 hown1 hgr1 hwh1
  have hb0 : Below w.heap.size w ((w.alloc (.cells #[.int .i64 m.time, .int .i64 m.number] 145)).alloc (.cells #[.int .i64 m.time, .int .i64 m.number] 145)) := ((Below.refl _ _).alloc (Nat.le_refl _) _).alloc (by simp) _
  have hO1 : OrdV base w1 v1 (n + 1) (putF f n m) := OrdV.of (by rw [momCells_snoc]; exact hown1.out)
  have ho1 : Only (fun b => some b = (Value.slice sa n sc).ownBlock) w w1 := (Only.new hb0).trans ⟨hgr1.out.os, hgr1.out.tape, hgr1.out.output, hgr1.out.size, fun k hk hn => hgr1.out.block k hk hn⟩
  have hw1 : v1.ownBlock = (Value.slice sa n sc).ownBlock ∨ ∃ g, v1.ownBlock = some g ∧ w.heap.size ≤ g := by
    rcases hwh1.out with h | h
    · exact .inl h
    · refine .inr ⟨_, h, ?_⟩
      omega
  obtain ⟨_, h0⟩ | ⟨b1, cap1, rfl, hb1, hc1, hc2, hrow1⟩ := hO1
  · omega
  have hne : ∀ k, some k = (Value.slice (some ⟨b1, 0, none⟩) (n + 1) cap1).ownBlock ↔ k = b1 := by intro k; simp [Value.ownBlock]
  clear hown1 hgr1 hwh1 hb0 hlt Hown
  have Ho1 := hide ho1
  have Hw1 := hide hw1
  clear ho1 hw1
  have e1 : ((n : Int) + 1 - 1) = (n : Int) := by omega
  go_wp2_with (go_at_call 86; (have e2 : (⟨b1, 0, none⟩ : Addr) = ⟨b1, 0, none⟩ := rfl); refine (rise_any b1 145 (cap1 * 2) (n + 1) cap1 n (putF f n m) _ q hrow1 (by omega) (by omega) (RiseF.last hh m) hm).mono ?_; rintro e w2 ⟨rfl, ho2, f', hr2, hh2, hm2⟩)
  go_ret
  refine ⟨_, f', rfl, .inr ⟨b1, cap1, rfl, hb1, hc1, hc2, hr2⟩, hh2, hm2, ?_, ?_⟩
  · rcases Hw1.out with h | ⟨g, h, hg⟩
    · refine Ho1.out.trans (ho2.mono ?_)
      rintro k hk rfl
      rw [← h]; simp [Value.ownBlock]
    · simp [Value.ownBlock] at h
      subst h
      refine ⟨ho2.os.trans Ho1.out.os, ho2.tape.trans Ho1.out.tape, ho2.output.trans Ho1.out.output, Nat.le_trans Ho1.out.size ho2.size, ?_⟩
      intro k hk hn
      rw [ho2.block k (Nat.lt_of_lt_of_le hk Ho1.out.size) (by omega)]
      exact Ho1.out.block k hk hn
  · exact Hw1.out
end Go.Proofs.Ytndlmgocldckfaa
