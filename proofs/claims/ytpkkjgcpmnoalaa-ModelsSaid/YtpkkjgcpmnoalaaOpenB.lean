import Derived.Test.YtpkkjgcpmnoalaaPlays
import Derived.Test.YtpkkjgcpmnoalaaOpenA
namespace Go.Proofs.Ytpkkjgcpmnoalaa
open Go.ChangeShapes Go.WideShapes Go.ChangeAt Go.RowKit Go.Deep Go.Joins
set_option linter.unusedVariables false
set_option linter.unusedSimpArgs false

section
variable {H : Type} {enc : TypeId × Value → H} {w : World} {spare : Nat → Bool} {held : Bool}

theorem IntsX.one {B : Nat} {v : Value} {l : List Int} (h : IntsX B w v l) : v.oneCell' = true := by
  obtain ⟨a, c, rfl⟩ := h.form
  rfl
theorem KindsV.one {B : Nat} {v : Value} {ks : List (List Ins)} (h : KindsV B w v ks) : v.oneCell' = true := by
  obtain ⟨_, ⟨rfl, _⟩ | ⟨b, off, cap, rfl, _⟩ | ⟨a, c, rfl, _⟩⟩ := h <;> rfl

set_option maxRecDepth 100000 in
theorem agg_weights {t : TypeId} {fs : Array Field} {ds : List (DataW H)} (hu : Try.prog.underlying t = some (.struct fs)) (h : WOK t (.agg ds)) {j : Nat} {f : Field} {d : DataW H} (hf : fs[j]? = some f) (hd : ds[j]? = some d) : WOK f.type d := by
  intro n hn
  refine h n ?_
  have hW : (DataW.agg ds).weights Try.prog t = DataW.weightsEach Try.prog (fs.toList.map (·.type)) ds := by simp only [DataW.weights, hu]
  rw [hW]
  exact DataW.weights_mem_each (by simp [hf]) hd n hn

set_option maxRecDepth 100000 in
theorem slice_form {n : Nat} {v : Value} {x : DataW H × List MemPlace} (h : DataW.trod enc Try.prog w 0 spare held n 39 [v] = some x) : ∃ a n c, v = .slice a n c := by
  rcases open_slice Try.underlying39 h with ⟨hcs, _⟩ | ⟨a, len, cap, m, k, D, Pl, hcs, _⟩
  · simp at hcs; exact ⟨_, _, _, hcs⟩
  · simp at hcs; exact ⟨_, _, _, hcs⟩

set_option maxRecDepth 100000 in
theorem op_open {n : Nat} {cs : List Value} {x : DataW H × List MemPlace} (h : DataW.trod enc Try.prog w 0 spare held n 41 cs = some x) (hw : WOK 41 x.1) :
    ∃ o : OpD, cs = opCells o ∧ OpOK w.heap.size w o := by
  obtain ⟨xs, k, _, rfl, hl, hxl, hf⟩ := DataW.trod_struct Try.underlying41 h
  rw [Try.cellsO] at hl
  match xs, hxl with
  | [y0, y1, y2, y3, y4, y5, y6, y7, y8, y9], _ =>
    match cs, hl with
    | [c0, c1, c2, c3, c4, c5, c6, c7, c8, c9, c10], _ =>
      have f0 := hf 0 _ rfl
      have f1 := hf 1 _ rfl
      have f2 := hf 2 _ rfl
      have f3 := hf 3 _ rfl
      have f4 := hf 4 _ rfl
      have f5 := hf 5 _ rfl
      have f6 := hf 6 _ rfl
      have f7 := hf 7 _ rfl
      have f8 := hf 8 _ rfl
      have f9 := hf 9 _ rfl
      simp [Try.cellsI, Try.cellsM, Try.cellsIs, Try.cellsRs, Try.cellsS] at f0 f1 f2 f3 f4 f5 f6 f7 f8 f9
      clear hf
      have w5 : WOK 38 y5.1 := agg_weights Try.underlying41 hw (j := 5) rfl rfl
      have w6 : WOK 24 y6.1 := agg_weights Try.underlying41 hw (j := 6) rfl rfl
      obtain ⟨n0, e0, _, b0⟩ := DataW.trod_int Try.underlying3 f0
      obtain ⟨n1, e1, _, b1⟩ := DataW.trod_int Try.underlying3 f1
      obtain ⟨n2, e2, _, b2⟩ := DataW.trod_int Try.underlying3 f2
      obtain ⟨n3, e3, _, b3⟩ := DataW.trod_int Try.underlying3 f3
      obtain ⟨n4, e4, _, b4⟩ := DataW.trod_int Try.underlying3 f4
      obtain ⟨z0, z1, km, hz, hzl, g0, g1⟩ := trod_struct2 Try.underlying38 f5
      simp [Try.cellsI, Try.cellsKs] at g0 g1
      rw [hz] at w5
      have wk : WOK 36 z1.1 := agg_weights Try.underlying38 w5 (j := 1) rfl rfl
      obtain ⟨n5, e5, _, b5⟩ := DataW.trod_int Try.underlying3 g0
      obtain ⟨ks, hks⟩ := kinds_open g1 wk
      obtain ⟨ds, hds⟩ := ints_open f6 w6
      obtain ⟨s, es, _, _⟩ := DataW.trod_string Try.underlying9 f9
      simp at e0 e1 e2 e3 e4 e5 es
      subst e0 e1 e2 e3 e4 e5 es
      have := bounds_i64 b1
      exact ⟨⟨n0, n1, n2, n3, n4, n5, c6, c7, c8, c9, .string s, ks, ds⟩, rfl, hks, hds, this.1, this.2, slice_form f7, slice_form f8, ⟨s, rfl⟩⟩

theorem opCells_one {B : Nat} {o : OpD} (h : OpOK B w o) : ∀ u ∈ opCells o, u.oneCell' = true := by
  obtain ⟨hk, hd, _, _, ⟨_, _, _, hr⟩, ⟨_, _, _, hq⟩, ⟨_, hs⟩⟩ := h
  intro u hu
  simp only [opCells, List.mem_cons, List.not_mem_nil, or_false] at hu
  rcases hu with rfl | rfl | rfl | rfl | rfl | rfl | rfl | rfl | rfl | rfl | rfl
  · rfl
  · rfl
  · rfl
  · rfl
  · rfl
  · rfl
  · exact hk.one
  · exact hd.one
  · rw [hr]; rfl
  · rw [hq]; rfl
  · rw [hs]; rfl

theorem rangeOps (f : Nat → OpD) : ∀ n : Nat, ∀ (i r : Nat) (v : Value), r < 11 → (opsRow ((List.range n).map f))[i * 11 + r]? = some v → i < n ∧ (opCells (f i))[r]? = some v := by
  intro n i r v hr hv
  rw [opsRow_get _ _ _ hr] at hv
  by_cases hi : i < n
  · simp [hi] at hv; exact ⟨hi, hv⟩
  · rw [List.getElem?_eq_none (by simp; omega)] at hv; cases hv

set_option maxRecDepth 100000 in
theorem script_open {n : Nat} {v : Value} {x : DataW H × List MemPlace} (h : DataW.trod enc Try.prog w 0 spare held n 22 [v] = some x) (hw : WOK 22 x.1) :
    ∃ os : List OpD, SrcAt w v os.length (opsRow os) ∧ (∀ o ∈ os, OpOK w.heap.size w o) ∧ (∀ u ∈ opsRow os, u.oneCell' = true) ∧ (os.length + 11) * 160 ≤ 140737488355328 := by
  rcases open_slice Try.underlying22 h with ⟨hcs, _⟩ | ⟨a, len, cap, m, k, D, Pl, hcs, _, hlc, hcm, hm, rfl, hel⟩
  · simp at hcs; subst hcs; exact ⟨[], .inl ⟨rfl, rfl, rfl⟩, by simp, by simp [opsRow], by decide⟩
  · simp at hcs; subst hcs
    obtain ⟨hb, hwe⟩ := hw.slice Try.underlying22
    rw [Try.bytesO] at hb
    unfold reachBytes at hb
    simp only [List.length_map, List.length_range] at hb
    have hml : len ≤ m := by rw [hm]; split <;> omega
    rw [Try.cellsO] at hel
    by_cases h0 : len = 0
    · subst h0; exact ⟨[], .inr (.inr ⟨a, cap, rfl, rfl⟩), by simp, by simp [opsRow], by decide⟩
    obtain ⟨f, hf⟩ := @choose_lt OpD ⟨⟨0, 0, 0, 0, 0, 0, .bool true, .bool true, .bool true, .bool true, .bool true, [], []⟩⟩ len (fun i y => w.cells? 0 (a.add (i * 11)) 11 = some (opCells y) ∧ OpOK w.heap.size w y) (fun i hi => by
      obtain ⟨cs', hc, ht⟩ := hel i (by omega)
      obtain ⟨y, rfl, hy⟩ := op_open ht (hwe (D i) (by simp; exact ⟨i, hi, rfl⟩))
      exact ⟨y, hc, hy⟩)
    obtain ⟨b, off, spot⟩ := a
    have hs : spot = none := by
      have := (World.cells?_some (hf 0 (by omega)).1).2.2 0 (by omega)
      simp [Addr.add] at this
      exact World.cell?_spot this
    subst hs
    have hokm : ∀ o ∈ (List.range len).map f, OpOK w.heap.size w o := by
      intro o ho
      obtain ⟨i, hi, rfl⟩ := List.mem_map.1 ho
      exact (hf i (List.mem_range.1 hi)).2
    refine ⟨(List.range len).map f, .inr (.inl ⟨b, off, cap, by simp, ?_⟩), hokm, ?_, by simp; omega⟩
    · intro j v hv
      have hj : j = (j / 11) * 11 + j % 11 := by omega
      rw [hj] at hv
      obtain ⟨hi, hc⟩ := rangeOps f len (j / 11) (j % 11) v (by omega) hv
      have := (World.cells?_some (hf (j / 11) hi).1).2.2 (j % 11) (by omega)
      rw [hc, Addr.add_lit, Addr.add_lit] at this
      rw [← this]
      congr 2
      omega
    · intro u hu
      obtain ⟨o, ho, hu⟩ := List.mem_flatMap.1 hu
      exact opCells_one (hokm o ho) u hu
end
end Go.Proofs.Ytpkkjgcpmnoalaa
