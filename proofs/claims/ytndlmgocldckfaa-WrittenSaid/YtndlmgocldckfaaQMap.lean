import Derived.Test.YtndlmgocldckfaaOrd
import Derived.MapFrom
import Derived.WideLaws
namespace Go.Proofs.Ytndlmgocldckfaa
open Go.RowKit
set_option linter.unusedVariables false
set_option linter.unusedSimpArgs false

def evVal (e : Ev) : Value := .agg #[.int .i64 e.number, .int .i64 e.time, .int .i64 e.kind, .int .i64 e.entity]

structure MapQ (es : Array MapEntry) (clock : Nat) (q : List Ev) : Prop where
  size : es.size = q.length
  stamped : MapKept.Stamped es clock
  sub : ∀ x ∈ es.toList, ∃ e, e ∈ q ∧ x.key = .int .i64 e.number ∧ x.val = evVal e
  sup : ∀ e ∈ q, ∃ x, x ∈ es.toList ∧ x.key = .int .i64 e.number ∧ x.val = evVal e

theorem MapQ.empty (clock : Nat) : MapQ #[] clock [] := ⟨rfl, MapKept.stamped_empty clock, by simp, by simp⟩
theorem MapQ.keys {es : Array MapEntry} {clock : Nat} {q : List Ev} (h : MapQ es clock q) : ∀ x ∈ es.toList, MapKept.IsKey (.int .i64) x.key := by
  intro x hx
  obtain ⟨e, _, hk, _⟩ := h.sub x hx
  rw [hk]; rfl

theorem MapQ.find {es : Array MapEntry} {clock : Nat} {q : List Ev} (h : MapQ es clock q) {e : Ev} (he : e ∈ q) (hd : Distinct q) :
    ∃ j x, Instr.findNow (.int .i64) (.int .i64 e.number) es.toList 0 = some (some (j, evVal e)) ∧ es.toList[j]? = some x ∧ x.key = .int .i64 e.number := by
  rcases MapKept.findNow_spec (d := .int .i64) (k := .int .i64 e.number) rfl es.toList 0 h.keys with ⟨_, h2⟩ | ⟨j, x, h1, h2, h3⟩
  · obtain ⟨x, hx, hk, _⟩ := h.sup e he
    exact absurd hk (h2 x hx)
  · obtain ⟨e', he', hk', hv'⟩ := h.sub x (List.mem_of_getElem? h2)
    have : e' = e := hd.eq he' he (by rw [hk'] at h3; simpa using h3)
    subst this
    refine ⟨j, x, ?_, h2, h3⟩
    rw [h1, hv']; simp
theorem MapQ.miss {es : Array MapEntry} {clock : Nat} {q : List Ev} (h : MapQ es clock q) {n : Int} (hn : ∀ e ∈ q, e.number ≠ n) :
    Instr.findNow (.int .i64) (.int .i64 n) es.toList 0 = some none := by
  rcases MapKept.findNow_spec (d := .int .i64) (k := .int .i64 n) rfl es.toList 0 h.keys with ⟨h1, _⟩ | ⟨j, x, h1, h2, h3⟩
  · exact h1
  · obtain ⟨e', he', hk', _⟩ := h.sub x (List.mem_of_getElem? h2)
    exact absurd (by rw [hk'] at h3; simpa using h3) (hn e' he')

section
variable {W : World} {mb : Nat} {es : Array MapEntry} {clock : Nat} {q : List Ev}
theorem run_lookup_ok (hb : W.heap[mb]? = some (.map es clock)) (h : MapQ es clock q) {e : Ev} (he : e ∈ q) (hd : Distinct q) (c : Bool) :
    (Instr.lookup 107 (.map (some mb)) (.int .i64 e.number) c).run Try.prog W = .ok (if c then .tuple #[evVal e, .bool true] else evVal e) W := by
  obtain ⟨j, x, hf, _, _⟩ := h.find he hd
  simp [Instr.lookup, run_underlying Try.underlying107, MapKept.run_getObj_map hb, MapKept.run_checkKey Try.underlying3 (show MapKept.IsKey (.int .i64) (.int .i64 e.number) from rfl), MapKept.run_findKey Try.underlying3 hf, Result.andThen]
theorem run_lookup_miss (hb : W.heap[mb]? = some (.map es clock)) (h : MapQ es clock q) {n : Int} (hn : ∀ e ∈ q, e.number ≠ n) :
    (Instr.lookup 107 (.map (some mb)) (.int .i64 n) true).run Try.prog W = .ok (.tuple #[.agg #[.int .i64 0, .int .i64 0, .int .i64 0, .int .i64 0], .bool false]) W := by
  have hf := h.miss hn
  have hz : ∀ W : World, (zeroValue 127).run Try.prog W = .ok (.agg #[.int .i64 0, .int .i64 0, .int .i64 0, .int .i64 0]) W := fun W => by simp [go_sem]
  simp [Instr.lookup, run_underlying Try.underlying107, MapKept.run_getObj_map hb, MapKept.run_checkKey Try.underlying3 (show MapKept.IsKey (.int .i64) (.int .i64 n) from rfl), MapKept.run_findKey Try.underlying3 hf, hz, Result.andThen]

def withMap (w : World) (r : Nat) (es : Array MapEntry) (clock : Nat) : World := { w with heap := w.heap.setIfInBounds r (.map es clock) }
theorem only_withMap (W : World) (mb : Nat) (es : Array MapEntry) (clock : Nat) : Only (· = mb) W (withMap W mb es clock) :=
  ⟨rfl, rfl, rfl, by simp [withMap], fun k hk hn => by simp only [withMap]; rw [Array.getElem?_setIfInBounds_ne (fun e => hn e.symm)]⟩
theorem withMap_at {W : World} {mb : Nat} (h : mb < W.heap.size) (es : Array MapEntry) (clock : Nat) : (withMap W mb es clock).heap[mb]? = some (.map es clock) := by simp [withMap, h]
theorem withMap_size (W : World) (mb : Nat) (es : Array MapEntry) (clock : Nat) : (withMap W mb es clock).heap.size = W.heap.size := by simp [withMap]

theorem run_mapPut (hb : W.heap[mb]? = some (.map es clock)) (h : MapQ es clock q) (e : Ev) (hn : ∀ x ∈ q, x.number ≠ e.number) :
    (Instr.mapUpdate 107 (.map (some mb)) (.int .i64 e.number) (evVal e)).run Try.prog W = .ok () (withMap W mb (es.push { key := .int .i64 e.number, val := evVal e, born := clock }) (clock + 1)) := by
  have hf := h.miss hn
  simp [Instr.mapUpdate, run_underlying Try.underlying107, MapKept.run_getObj_map hb, MapKept.run_checkKey Try.underlying3 (show MapKept.IsKey (.int .i64) (.int .i64 e.number) from rfl), MapKept.run_findKey Try.underlying3 hf, MapKept.run_setObj_map _ hb, Result.andThen, withMap]
theorem MapQ.put (h : MapQ es clock q) {e : Ev} (hn : ∀ x ∈ q, x.number ≠ e.number) {q' : List Ev} (hl : q'.length = q.length + 1) (hq : ∀ x, x ∈ q' ↔ x = e ∨ x ∈ q) : MapQ (es.push { key := .int .i64 e.number, val := evVal e, born := clock }) (clock + 1) q' := by
  refine ⟨by simp [h.size, hl], MapKept.stamped_push h.stamped ?_, ?_, ?_⟩
  · intro x hx hk
    obtain ⟨e', he', hk', _⟩ := h.sub x hx
    rw [hk'] at hk
    exact hn e' he' (by simpa using hk)
  · intro x hx
    simp only [Array.toList_push, List.mem_append, List.mem_singleton] at hx
    rcases hx with hx | rfl
    · obtain ⟨e', he', r⟩ := h.sub x hx
      exact ⟨e', (hq e').2 (.inr he'), r⟩
    · exact ⟨e, (hq e).2 (.inl rfl), rfl, rfl⟩
  · intro x hx
    rcases (hq x).1 hx with rfl | hx
    · exact ⟨{ key := .int .i64 x.number, val := evVal x, born := clock }, by simp, rfl, rfl⟩
    · obtain ⟨y, hy, r⟩ := h.sup x hx
      exact ⟨y, by simp at hy ⊢; exact .inl hy, r⟩

theorem run_mapOut (hb : W.heap[mb]? = some (.map es clock)) (h : MapQ es clock q) {e : Ev} (he : e ∈ q) (hd : Distinct q) (ty : TypeId) :
    ∃ es', (Builtin.delete_ #[107, 3] ty #[.map (some mb), .int .i64 e.number]).run Try.prog W = .ok (.tuple #[]) (withMap W mb es' clock) ∧ MapQ es' clock (outF e.number q) := by
  obtain ⟨j, x, hf, hx, hk⟩ := h.find he hd
  refine ⟨es.eraseIdxIfInBounds j, ?_, ?_⟩
  · simp [Builtin.delete_, run_underlying Try.underlying107, MapKept.run_getObj_map hb, MapKept.run_checkKey Try.underlying3 (show MapKept.IsKey (.int .i64) (.int .i64 e.number) from rfl), MapKept.run_findKey Try.underlying3 hf, MapKept.run_setObj_map _ hb, Result.andThen, withMap]
  · have hjl : j < es.size := by have := (List.getElem?_eq_some_iff.1 hx).1; simpa using this
    have hes : (es.eraseIdxIfInBounds j).toList = es.toList.eraseIdx j := by simp [Array.eraseIdxIfInBounds, hjl]
    have hlen := outF_length hd he rfl
    have hnd : (es.toList.map (·.key)).Nodup := h.stamped.2.2
    have hmem : ∀ y, y ∈ es.toList.eraseIdx j ↔ y ∈ es.toList ∧ y.key ≠ .int .i64 e.number := by
      intro y
      constructor
      · intro hy
        have hy' := (List.eraseIdx_sublist _ _).subset hy
        refine ⟨hy', fun hc => ?_⟩
        obtain ⟨i, hij, hi⟩ := List.mem_eraseIdx_iff_getElem?.1 hy
        have h1 : (es.toList.map (·.key))[i]? = (es.toList.map (·.key))[j]? := by rw [List.getElem?_map, List.getElem?_map, hi, hx]; simp [hc, hk]
        have hil : i < (es.toList.map (·.key)).length := by have := (List.getElem?_eq_some_iff.1 hi).1; simpa using this
        exact hij ((List.getElem?_inj hil hnd).1 h1)
      · rintro ⟨hy, hne⟩
        obtain ⟨i, hi⟩ := List.getElem?_of_mem hy
        refine List.mem_eraseIdx_iff_getElem?.2 ⟨i, ?_, hi⟩
        rintro rfl
        rw [hx] at hi; cases hi
        exact hne hk
    refine ⟨?_, MapKept.stamped_erase h.stamped j, ?_, ?_⟩
    · rw [← Array.length_toList, hes, List.length_eraseIdx_of_lt (by simpa using hjl), Array.length_toList, h.size]; omega
    · intro y hy
      rw [hes] at hy
      obtain ⟨hy1, hy2⟩ := (hmem y).1 hy
      obtain ⟨e', he', r1, r2⟩ := h.sub y hy1
      exact ⟨e', (outF_mem _ _ _).2 ⟨he', fun hc => hy2 (by rw [r1, hc])⟩, r1, r2⟩
    · intro e' he'
      obtain ⟨he1, he2⟩ := (outF_mem _ _ _).1 he'
      obtain ⟨y, hy, r1, r2⟩ := h.sup e' he1
      exact ⟨y, by rw [hes]; exact (hmem y).2 ⟨hy, fun hc => he2 (by rw [r1] at hc; simpa using hc)⟩, r1, r2⟩
end
end Go.Proofs.Ytndlmgocldckfaa
