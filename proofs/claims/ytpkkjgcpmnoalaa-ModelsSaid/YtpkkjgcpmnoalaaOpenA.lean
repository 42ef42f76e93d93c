import Derived.Test.YtpkkjgcpmnoalaaMadeH
import Derived.ProofKit
import Derived.Deep.Slices
import Derived.SizedLaws
import Derived.Lib.SmallJoins
import Derived.OpenShut
import Derived.ChangeOld
namespace Go.Proofs.Ytpkkjgcpmnoalaa
open Go.ChangeShapes Go.WideShapes Go.ChangeAt Go.RowKit Go.Deep Go.Joins
set_option linter.unusedVariables false
set_option linter.unusedSimpArgs false

/-! The script, as it is read, lies so. -/

theorem Try.cellsI : Try.prog.cellsOf 3 = 1 := by kernel_rfl
theorem Try.cellsC : Try.prog.cellsOf 59 = 4 := by kernel_rfl
theorem Try.cellsK : Try.prog.cellsOf 60 = 1 := by kernel_rfl
theorem Try.cellsKs : Try.prog.cellsOf 36 = 1 := by kernel_rfl
theorem Try.cellsIs : Try.prog.cellsOf 24 = 1 := by kernel_rfl
theorem Try.cellsRs : Try.prog.cellsOf 39 = 1 := by kernel_rfl
theorem Try.cellsS : Try.prog.cellsOf 9 = 1 := by kernel_rfl
theorem Try.cellsM : Try.prog.cellsOf 38 = 2 := by kernel_rfl
theorem Try.cellsO : Try.prog.cellsOf 41 = 11 := by kernel_rfl
theorem Try.bytesI : Try.prog.bytesOf 3 = 8 := by kernel_rfl
theorem Try.bytesC : Try.prog.bytesOf 59 = 32 := by kernel_rfl
theorem Try.bytesK : Try.prog.bytesOf 60 = 24 := by kernel_rfl
theorem Try.bytesO : Try.prog.bytesOf 41 = 160 := by kernel_rfl

section
variable {H : Type} {enc : TypeId × Value → H} {w : World} {spare : Nat → Bool} {held : Bool}

def WOK (t : TypeId) (d : DataW H) : Prop := ∀ n ∈ d.weights Try.prog t, n ≤ reachBytes

theorem weightsAll_mem {e : TypeId} : ∀ {ds : List (DataW H)} {d : DataW H}, d ∈ ds → ∀ n ∈ d.weights Try.prog e, n ∈ DataW.weightsAll Try.prog e ds
  | x :: ds, d, h, n, hn => by
    simp only [DataW.weightsAll, List.mem_append]
    rcases List.mem_cons.1 h with rfl | h
    · exact .inl hn
    · exact .inr (weightsAll_mem h n hn)

set_option maxRecDepth 100000 in
theorem WOK.slice {t e : TypeId} {els sp : List (DataW H)} (h : WOK t (.slice els sp)) (hu : Try.prog.underlying t = some (.slice e)) :
    (els.length + sp.length) * Try.prog.bytesOf e ≤ reachBytes ∧ ∀ d ∈ els, WOK e d := by
  have hW : (DataW.slice els sp).weights Try.prog t = (els.length + sp.length) * Try.prog.bytesOf e :: (DataW.weightsAll Try.prog e els ++ DataW.weightsAll Try.prog e sp) := by simp only [DataW.weights, hu]
  unfold WOK at h
  rw [hW] at h
  refine ⟨h _ (List.mem_cons_self ..), fun d hd n hn => h n (List.mem_cons_of_mem _ (List.mem_append.2 (.inl (weightsAll_mem hd n hn))))⟩

set_option maxRecDepth 100000 in
theorem instr_open {n : Nat} {cs : List Value} {x : DataW H × List MemPlace} (h : DataW.trod enc Try.prog w 0 spare held n 59 cs = some x) : ∃ i : Ins, cs = cells4 i := by
  obtain ⟨y0, y1, y2, y3, k, rfl, hl, h0, h1, h2, h3⟩ := trod_struct4 Try.underlying59 h
  rw [Try.cellsC] at hl
  match cs, hl with
  | [c0, c1, c2, c3], _ =>
    simp only [Try.cellsI] at h0 h1 h2 h3
    obtain ⟨n0, e0, _, _⟩ := DataW.trod_int Try.underlying3 h0
    obtain ⟨n1, e1, _, _⟩ := DataW.trod_int Try.underlying3 h1
    obtain ⟨n2, e2, _, _⟩ := DataW.trod_int Try.underlying3 h2
    obtain ⟨n3, e3, _, _⟩ := DataW.trod_int Try.underlying3 h3
    simp at e0 e1 e2 e3
    subst e0 e1 e2 e3
    exact ⟨⟨n0, n1, n2, n3⟩, rfl⟩

set_option maxRecDepth 100000 in
theorem code_open {n : Nat} {v : Value} {x : DataW H × List MemPlace} (h : DataW.trod enc Try.prog w 0 spare held n 60 [v] = some x) (hw : WOK 60 x.1) : ∃ l, CodeV w.heap.size w v l := by
  rcases open_slice Try.underlying60 h with ⟨hcs, _⟩ | ⟨a, len, cap, m, k, D, Pl, hcs, _, hlc, hcm, hm, rfl, hel⟩
  · simp at hcs; subst hcs; exact ⟨[], by simp, .inl ⟨rfl, rfl⟩⟩
  · simp at hcs; subst hcs
    obtain ⟨hb, _⟩ := hw.slice Try.underlying60
    rw [Try.bytesC] at hb
    unfold reachBytes at hb
    simp only [List.length_map, List.length_range] at hb
    have hml : len ≤ m := by rw [hm]; split <;> omega
    rw [Try.cellsC] at hel
    by_cases h0 : len = 0
    · subst h0; exact ⟨[], by simp, .inr (.inr ⟨a, cap, rfl, rfl⟩)⟩
    obtain ⟨f, hf⟩ := @choose_lt Ins ⟨⟨0, 0, 0, 0⟩⟩ len (fun i y => w.cells? 0 (a.add (i * 4)) 4 = some (cells4 y)) (fun i hi => by
      obtain ⟨cs', hc, ht⟩ := hel i (by omega)
      obtain ⟨y, rfl⟩ := instr_open ht
      exact ⟨y, hc⟩)
    obtain ⟨b, off, spot⟩ := a
    have hs : spot = none := by
      have := (World.cells?_some (hf 0 (by omega))).2.2 0 (by omega)
      simp [Addr.add] at this
      exact World.cell?_spot this
    subst hs
    have hcell : ∀ i, i < len → ∀ r v, (cells4 (f i))[r]? = some v → r < 4 → w.cell? ⟨b, off + i * 4 + r, none⟩ = some v := by
      intro i hi r v hv hr
      have := (World.cells?_some (hf i hi)).2.2 r hr
      rw [hv, Addr.add_lit, Addr.add_lit] at this
      exact this
    refine ⟨(List.range len).map f, by simp; omega, .inr (.inl ⟨b, off, cap, by simp, ?_, ?_⟩)⟩
    · exact lt_of_cell (hcell 0 (by omega) 0 _ rfl (by omega))
    · intro i y hy
      have hi : i < len := by simpa using (List.getElem?_eq_some_iff.1 hy).1
      have : y = f i := by simpa [hi] using hy.symm
      subst this
      exact ⟨hcell i hi 0 _ rfl (by omega), hcell i hi 1 _ rfl (by omega), hcell i hi 2 _ rfl (by omega), hcell i hi 3 _ rfl (by omega)⟩

set_option maxRecDepth 100000 in
theorem kinds_open {n : Nat} {v : Value} {x : DataW H × List MemPlace} (h : DataW.trod enc Try.prog w 0 spare held n 36 [v] = some x) (hw : WOK 36 x.1) : ∃ ks, KindsV w.heap.size w v ks := by
  rcases open_slice Try.underlying36 h with ⟨hcs, _⟩ | ⟨a, len, cap, m, k, D, Pl, hcs, _, hlc, hcm, hm, rfl, hel⟩
  · simp at hcs; subst hcs; exact ⟨[], by simp, .inl ⟨rfl, rfl⟩⟩
  · simp at hcs; subst hcs
    obtain ⟨hb, hwe⟩ := hw.slice Try.underlying36
    rw [Try.bytesK] at hb
    unfold reachBytes at hb
    simp only [List.length_map, List.length_range] at hb
    have hml : len ≤ m := by rw [hm]; split <;> omega
    rw [Try.cellsK] at hel
    by_cases h0 : len = 0
    · subst h0; exact ⟨[], by simp, .inr (.inr ⟨a, cap, rfl, rfl⟩)⟩
    obtain ⟨f, hf⟩ := @choose_lt (List Ins) ⟨[]⟩ len (fun i y => ∃ u, w.cell? (a.add i) = some u ∧ CodeV w.heap.size w u y) (fun i hi => by
      obtain ⟨cs', hc, ht⟩ := hel i (by omega)
      rw [Nat.mul_one] at hc
      obtain ⟨_, hl1, hg⟩ := World.cells?_some hc
      match cs', hl1 with
      | [u], _ =>
        obtain ⟨l, hl⟩ := code_open ht (hwe (D i) (by simp; exact ⟨i, hi, rfl⟩))
        exact ⟨l, u, by simpa [Addr.add] using hg 0 (by omega), hl⟩)
    obtain ⟨b, off, spot⟩ := a
    have hs : spot = none := by
      obtain ⟨u, hu, _⟩ := hf 0 (by omega)
      simp [Addr.add] at hu
      exact World.cell?_spot hu
    subst hs
    refine ⟨(List.range len).map f, by simp; omega, .inr (.inl ⟨b, off, cap, by simp, ?_, ?_⟩)⟩
    · obtain ⟨u, hu, _⟩ := hf 0 (by omega)
      rw [Addr.add_lit] at hu
      exact lt_of_cell hu
    · intro i y hy
      have hi : i < len := by simpa using (List.getElem?_eq_some_iff.1 hy).1
      have : y = f i := by simpa [hi] using hy.symm
      subst this
      obtain ⟨u, hu, hc⟩ := hf i hi
      rw [Addr.add_lit] at hu
      exact ⟨u, hu, hc⟩

set_option maxRecDepth 100000 in
theorem ints_open {n : Nat} {v : Value} {x : DataW H × List MemPlace} (h : DataW.trod enc Try.prog w 0 spare held n 24 [v] = some x) (hw : WOK 24 x.1) : ∃ l, IntsX w.heap.size w v l := by
  rcases open_slice Try.underlying24 h with ⟨hcs, _⟩ | ⟨a, len, cap, m, k, D, Pl, hcs, _, hlc, hcm, hm, rfl, hel⟩
  · simp at hcs; subst hcs; exact ⟨[], .inl ⟨by simp, .inl ⟨rfl, rfl⟩⟩⟩
  · simp at hcs; subst hcs
    obtain ⟨hb, hwe⟩ := hw.slice Try.underlying24
    rw [Try.bytesI] at hb
    unfold reachBytes at hb
    simp only [List.length_map, List.length_range] at hb
    have hml : len ≤ m := by rw [hm]; split <;> omega
    rw [Try.cellsI] at hel
    by_cases h0 : len = 0
    · subst h0; exact ⟨[], .inr ⟨a, cap, rfl, rfl⟩⟩
    obtain ⟨f, hf⟩ := @choose_lt Int ⟨0⟩ len (fun i y => w.cell? (a.add i) = some (.int .i64 y)) (fun i hi => by
      obtain ⟨cs', hc, ht⟩ := hel i (by omega)
      rw [Nat.mul_one] at hc
      obtain ⟨y, rfl, _, _⟩ := DataW.trod_int Try.underlying3 ht
      exact ⟨y, cell_of_cells?_one hc⟩)
    obtain ⟨b, off, spot⟩ := a
    have hs : spot = none := by
      have hu := hf 0 (by omega)
      simp [Addr.add] at hu
      exact World.cell?_spot hu
    subst hs
    have hrow : RowAt w b off (ints ((List.range len).map f)) := by
      intro j u hu
      have hj : j < len := by simpa [ints] using (List.getElem?_eq_some_iff.1 hu).1
      have : u = .int .i64 (f j) := by simpa [ints, hj] using hu.symm
      subst this
      have := hf j hj
      rw [Addr.add_lit] at this
      exact this
    refine ⟨(List.range len).map f, .inl ⟨by simp; omega, .inr ⟨b, off, cap, by simp, ?_, hrow⟩⟩⟩
    have := hf 0 (by omega)
    rw [Addr.add_lit] at this
    exact lt_of_cell this
end
end Go.Proofs.Ytpkkjgcpmnoalaa
