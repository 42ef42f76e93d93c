import Derived.Test.YtndlmgocldckfaaKpI
import Derived.ProofKit
import Derived.Deep.Slices
import Derived.Deep.Strs
import Derived.SizedLaws
import Derived.Lib.SmallJoins
import Derived.Laws.IdiomArrays
import Derived.OpenShut
import Derived.ChangeOld
namespace Go.Proofs.Ytndlmgocldckfaa
open Go.ChangeShapes Go.WideShapes Go.ChangeAt Go.RowKit Go.Deep Go.Joins
set_option linter.unusedVariables false
set_option linter.unusedSimpArgs false

/-! What is handed to tempokeep's laws, as it is read, lies so. -/

theorem Try.cellsI : Try.prog.cellsOf 3 = 1 := by kernel_rfl
theorem Try.cellsA3 : Try.prog.cellsOf 68 = 3 := by kernel_rfl
theorem Try.cellsIs : Try.prog.cellsOf 22 = 1 := by kernel_rfl
theorem Try.cellsPs : Try.prog.cellsOf 23 = 1 := by kernel_rfl
theorem Try.cellsCase : Try.prog.cellsOf 25 = 3 := by kernel_rfl
theorem Try.bytesI : Try.prog.bytesOf 3 = 8 := by kernel_rfl
theorem Try.bytesA3 : Try.prog.bytesOf 68 = 24 := by kernel_rfl

section
variable {H : Type} {enc : TypeId × Value → H} {w : World} {spare : Nat → Bool} {held : Bool}

def WOK (t : TypeId) (d : DataW H) : Prop := ∀ n ∈ d.weights Try.prog t, n ≤ reachBytes

theorem weightsAll_mem {e : TypeId} : ∀ {ds : List (DataW H)} {d : DataW H}, d ∈ ds → ∀ n ∈ d.weights Try.prog e, n ∈ DataW.weightsAll Try.prog e ds
  | x :: ds, d, h, n, hn => by
    simp only [DataW.weightsAll, List.mem_append]
    rcases List.mem_cons.1 h with rfl | h
    · exact .inl hn
    · exact .inr (weightsAll_mem h n hn)

set_option maxRecDepth 100000 in
theorem WOK.slice {t e : TypeId} {els sp : List (DataW H)} (h : WOK t (.slice els sp)) (hu : Try.prog.underlying t = some (.slice e)) :
    (els.length + sp.length) * Try.prog.bytesOf e ≤ reachBytes := by
  have hW : (DataW.slice els sp).weights Try.prog t = (els.length + sp.length) * Try.prog.bytesOf e :: (DataW.weightsAll Try.prog e els ++ DataW.weightsAll Try.prog e sp) := by simp only [DataW.weights, hu]
  unfold WOK at h
  rw [hW] at h
  exact h _ (List.mem_cons_self ..)

set_option maxRecDepth 100000 in
theorem agg_weights {t : TypeId} {fs : Array Field} {ds : List (DataW H)} (hu : Try.prog.underlying t = some (.struct fs)) (h : WOK t (.agg ds)) {j : Nat} {f : Field} {d : DataW H} (hf : fs[j]? = some f) (hd : ds[j]? = some d) : WOK f.type d := by
  intro n hn
  refine h n ?_
  have hW : (DataW.agg ds).weights Try.prog t = DataW.weightsEach Try.prog (fs.toList.map (·.type)) ds := by simp only [DataW.weights, hu]
  rw [hW]
  exact DataW.weights_mem_each (by simp [hf]) hd n hn

set_option maxRecDepth 100000 in
theorem ints_open {n : Nat} {v : Value} {x : DataW H × List MemPlace} (h : DataW.trod enc Try.prog w 0 spare held n 22 [v] = some x) (hw : WOK 22 x.1) : ∃ sa L sc, v = .slice sa L.length sc ∧ RawL w sa L := by
  rcases open_slice Try.underlying22 h with ⟨hcs, _⟩ | ⟨a, len, cap, m, k, D, Pl, hcs, _, hlc, hcm, hm, rfl, hel⟩
  · simp at hcs; subst hcs; exact ⟨none, [], 0, rfl, by simp, by simp, by simp⟩
  · simp at hcs; subst hcs
    have hb := hw.slice Try.underlying22
    rw [Try.bytesI] at hb
    unfold reachBytes at hb
    simp only [List.length_map, List.length_range] at hb
    have hml : len ≤ m := by rw [hm]; split <;> omega
    rw [Try.cellsI] at hel
    by_cases h0 : len = 0
    · subst h0; exact ⟨some a, [], cap, rfl, by simp, by simp, by simp⟩
    obtain ⟨f, hf⟩ := @choose_lt Int ⟨0⟩ len (fun i y => w.cell? (a.add i) = some (.int .i64 y) ∧ I64 y) (fun i hi => by
      obtain ⟨cs', hc, ht⟩ := hel i (by omega)
      rw [Nat.mul_one] at hc
      obtain ⟨y, rfl, _, hy⟩ := DataW.trod_int Try.underlying3 ht
      exact ⟨y, cell_of_cells?_one hc, bounds_i64 hy⟩)
    obtain ⟨b, off, spot⟩ := a
    have hs : spot = none := by
      have hu := (hf 0 (by omega)).1
      simp [Addr.add] at hu
      exact World.cell?_spot hu
    subst hs
    refine ⟨some ⟨b, off, none⟩, (List.range len).map f, cap, by simp, by simp; omega, ?_, ?_⟩
    · intro c hc
      obtain ⟨i, hi, rfl⟩ := List.mem_map.1 hc
      exact (hf i (List.mem_range.1 hi)).2
    · intro i hi
      have hi' : i < len := by simpa using hi
      refine ⟨b, off, rfl, ?_⟩
      have := (hf i hi').1
      rw [Addr.add_lit] at this
      simpa using this

set_option maxRecDepth 100000 in
theorem arr_open {n : Nat} {cs : List Value} {x : DataW H × List MemPlace} (h : DataW.trod enc Try.prog w 0 spare held n 68 cs = some x) (hl : cs.length = 3) : ∃ p : PlanR, cs = [.int .i64 p.1, .int .i64 p.2.1, .int .i64 p.2.2] ∧ I64 p.1 ∧ I64 p.2.1 ∧ I64 p.2.2 := by
  match cs, hl with
  | [c0, c1, c2], _ =>
    obtain ⟨y0, y1, y2, k, _, h0, h1, h2⟩ := trod_array3 Try.underlying68 Try.cellsI h
    obtain ⟨n0, e0, _, b0⟩ := DataW.trod_int Try.underlying3 h0
    obtain ⟨n1, e1, _, b1⟩ := DataW.trod_int Try.underlying3 h1
    obtain ⟨n2, e2, _, b2⟩ := DataW.trod_int Try.underlying3 h2
    simp at e0 e1 e2
    subst e0 e1 e2
    exact ⟨(n0, n1, n2), rfl, bounds_i64 b0, bounds_i64 b1, bounds_i64 b2⟩

set_option maxRecDepth 100000 in
theorem plans_open {n : Nat} {v : Value} {x : DataW H × List MemPlace} (h : DataW.trod enc Try.prog w 0 spare held n 23 [v] = some x) (hw : WOK 23 x.1) : ∃ pa P pc, v = .slice pa P.length pc ∧ RawPl w pa P := by
  rcases open_slice Try.underlying23 h with ⟨hcs, _⟩ | ⟨a, len, cap, m, k, D, Pl, hcs, _, hlc, hcm, hm, rfl, hel⟩
  · simp at hcs; subst hcs; exact ⟨none, [], 0, rfl, by simp, by simp, by simp⟩
  · simp at hcs; subst hcs
    have hb := hw.slice Try.underlying23
    rw [Try.bytesA3] at hb
    unfold reachBytes at hb
    simp only [List.length_map, List.length_range] at hb
    have hml : len ≤ m := by rw [hm]; split <;> omega
    rw [Try.cellsA3] at hel
    by_cases h0 : len = 0
    · subst h0; exact ⟨some a, [], cap, rfl, by simp, by simp, by simp⟩
    obtain ⟨f, hf⟩ := @choose_lt PlanR ⟨(0, 0, 0)⟩ len (fun i p => w.cells? 0 (a.add (i * 3)) 3 = some [.int .i64 p.1, .int .i64 p.2.1, .int .i64 p.2.2] ∧ I64 p.1 ∧ I64 p.2.1 ∧ I64 p.2.2) (fun i hi => by
      obtain ⟨cs', hc, ht⟩ := hel i (by omega)
      obtain ⟨p, rfl, hp⟩ := arr_open ht (World.cells?_some hc).2.1
      exact ⟨p, hc, hp⟩)
    obtain ⟨b, off, spot⟩ := a
    have hs : spot = none := by
      have := (World.cells?_some (hf 0 (by omega)).1).2.2 0 (by omega)
      simp [Addr.add] at this
      exact World.cell?_spot this
    subst hs
    refine ⟨some ⟨b, off, none⟩, (List.range len).map f, cap, by simp, by simp; omega, ?_, ?_⟩
    · intro c hc
      obtain ⟨i, hi, rfl⟩ := List.mem_map.1 hc
      exact (hf i (List.mem_range.1 hi)).2
    · intro i hi
      have hi' : i < len := by simpa using hi
      have hc : ∀ r v, r < 3 → [Value.int .i64 (f i).1, .int .i64 (f i).2.1, .int .i64 (f i).2.2][r]? = some v → w.cell? ⟨b, off + i * 3 + r, none⟩ = some v := by
        intro r v hr hv
        have := (World.cells?_some (hf i hi').1).2.2 r hr
        rw [hv, Addr.add_lit, Addr.add_lit] at this
        exact this
      refine ⟨b, off, rfl, ?_, ?_, ?_⟩
      · simpa using hc 0 _ (by omega) rfl
      · simpa using hc 1 _ (by omega) rfl
      · simpa using hc 2 _ (by omega) rfl

/-- A case as it is read. -/
def CaseV (w : World) (v : Value) : Prop := ∃ sa da pa sc dc pc, ∃ L D : List Int, ∃ P : List PlanR, v = .agg #[.slice sa L.length sc, .slice da D.length dc, .slice pa P.length pc] ∧ RawL w sa L ∧ RawL w da D ∧ RawPl w pa P

set_option maxRecDepth 100000 in
theorem case_open {v : Value} {d : DataW H} {ps : List MemPlace} (hv : ∃ cs, v = .agg cs ∧ cs.size = Try.prog.cellsOf 25) (h : DataW.Trod enc Try.prog w 0 spare held 25 v d ps) (hw : WOK 25 d) : CaseV w v := by
  obtain ⟨cs, rfl, hsz⟩ := hv
  rw [Try.cellsCase] at hsz
  obtain ⟨l⟩ := cs
  match l, hsz with
  | [c0, c1, c2], _ =>
    obtain ⟨fuel, hf⟩ := h
    obtain ⟨y0, y1, y2, k, hx, _, h0, h1, h2⟩ := trod_struct3 Try.underlying25 hf
    simp only [Prod.mk.injEq] at hx
    obtain ⟨rfl, rfl⟩ := hx
    have w0 : WOK 22 y0.1 := agg_weights Try.underlying25 hw (j := 0) rfl rfl
    have w1 : WOK 22 y1.1 := agg_weights Try.underlying25 hw (j := 1) rfl rfl
    have w2 : WOK 23 y2.1 := agg_weights Try.underlying25 hw (j := 2) rfl rfl
    simp [Value.cells, Try.cellsIs, Try.cellsPs] at h0 h1 h2
    obtain ⟨sa, L, sc, rfl, hL⟩ := ints_open h0 w0
    obtain ⟨da, D, dc, rfl, hD⟩ := ints_open h1 w1
    obtain ⟨pa, P, pc, rfl, hP⟩ := plans_open h2 w2
    exact ⟨sa, da, pa, sc, dc, pc, L, D, P, rfl, hL, hD, hP⟩
end

theorem own : ownKnob Try.prog.godebug = none := by kernel_rfl
theorem laidOut : laidOutB Try.prog = true := by kernel_rfl
end Go.Proofs.Ytndlmgocldckfaa
