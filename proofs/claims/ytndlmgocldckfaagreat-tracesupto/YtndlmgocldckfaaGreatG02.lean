import Derived.Test.YtndlmgocldckfaaGreatG01
import Derived.Laws.CopyRow
import Derived.BigRegion
import Derived.BigQuiet
import Derived.Deep.QuietTactic
import Derived.Deep.LoopGhost
import Derived.RegionTactic
import Derived.Deep.RegionHeld3
namespace Go.Proofs.YtndlmgocldckfaaGreat
open Go.RowKit
set_option linter.unusedVariables false
set_option linter.unusedSimpArgs false
set_option maxRecDepth 100000
set_option maxHeartbeats 4000000
structure Ev where
 time : Int
 number : Int
 kind : Int
 entity : Int
structure Mom where
 time : Int
 number : Int
def Ev.mom (e : Ev) : Mom := ⟨e.time, e.number⟩
def aheadM (a b : Mom) : Bool := decide (a.time < b.time) || (decide (a.time = b.time) && decide (a.number < b.number))
def aheadF (a b : Ev) : Bool := decide (a.time < b.time) || (decide (a.time = b.time) && decide (a.number < b.number))
theorem aheadF_mom (a b : Ev) : aheadF a b = aheadM a.mom b.mom := rfl
theorem aheadM_iff (a b : Mom) : aheadM a b = true ↔ a.time < b.time ∨ (a.time = b.time ∧ a.number < b.number) := by simp [aheadM]
theorem aheadM_no (a b : Mom) : aheadM a b = false ↔ b.time < a.time ∨ (a.time = b.time ∧ b.number ≤ a.number) := by
 rw [← Bool.not_eq_true, aheadM_iff]; omega
theorem aheadM_ntrans {a b c : Mom} (h : aheadM a b = false) (k : aheadM b c = false) : aheadM a c = false := by
 rw [aheadM_no] at *; omega
theorem aheadM_self (a : Mom) : aheadM a a = false := by rw [aheadM_no]; omega
def putF (f : Nat → Mom) (i : Nat) (m : Mom) : Nat → Mom := fun k => if k = i then m else f k
def HeapF (f : Nat → Mom) (n : Nat) : Prop := ∀ j, 0 < j → j < n → aheadM (f j) (f ((j - 1) / 2)) = false
def RiseF (f : Nat → Mom) (n i : Nat) : Prop :=
 (∀ j, 0 < j → j < n → j ≠ i → aheadM (f j) (f ((j - 1) / 2)) = false) ∧ (∀ j, 0 < i → 0 < j → j < n → (j - 1) / 2 = i → aheadM (f j) (f ((i - 1) / 2)) = false)
def SinkF (f : Nat → Mom) (n i0 i : Nat) : Prop :=
 (∀ j, 0 < j → j < n → (j - 1) / 2 ≠ i → (j ≠ i0 ∨ i ≠ i0) → aheadM (f j) (f ((j - 1) / 2)) = false) ∧ (∀ j, 0 < i → 0 < j → j < n → (j - 1) / 2 = i → aheadM (f j) (f ((i - 1) / 2)) = false)
theorem RiseF.done {f : Nat → Mom} {n i : Nat} (h : RiseF f n i) (he : i = 0 ∨ n ≤ i ∨ aheadM (f i) (f ((i - 1) / 2)) = false) : HeapF f n := by
 intro j hj hjn
 by_cases hji : j = i
 ·subst hji
  rcases he with h0 | h0 | h0
  ·omega
  ·omega
  ·exact h0
 ·exact h.1 j hj hjn hji
theorem SinkF.done {f : Nat → Mom} {n i0 i : Nat} (h : SinkF f n i0 i) (h0 : i0 ≤ i) (he : ∀ s, 0 < s → s < n → (s - 1) / 2 = i → aheadM (f s) (f i) = false) : RiseF f n i0 := by
 obtain ⟨h1, h2⟩ := h
 by_cases hi : i = i0
 ·subst hi
  refine ⟨?_, h2⟩
  intro j hj hjn hji
  by_cases hpi : (j - 1) / 2 = i
  ·rw [hpi]; exact he j hj hjn hpi
  ·exact h1 j hj hjn hpi (.inl hji)
 ·have hall : ∀ j, 0 < j → j < n → aheadM (f j) (f ((j - 1) / 2)) = false := by
   intro j hj hjn
   by_cases hpi : (j - 1) / 2 = i
   ·rw [hpi]; exact he j hj hjn hpi
   ·exact h1 j hj hjn hpi (.inr hi)
  refine ⟨fun j hj hjn _ => hall j hj hjn, ?_⟩
  intro j hi0 hj hjn hp
  have a := hall j hj hjn
  rw [hp] at a
  exact aheadM_ntrans a (hall i0 hi0 (by omega))
theorem SinkF.start {f : Nat → Mom} {n i : Nat} (h : HeapF f (n + 1)) (hi : i < n) : SinkF (putF f i (f n)) n i i := by
 refine ⟨?_, ?_⟩
 ·intro j hj hjn hp hji
  have hji' : j ≠ i := by omega
  simp [putF, hji', hp]
  exact h j hj (by omega)
 ·intro j hi0 hj hjn hp
  have a := h j hj (by omega)
  have b := h i hi0 (by omega)
  rw [hp] at a
  simp [putF, show j ≠ i by omega, show (i - 1) / 2 ≠ i by omega]
  exact aheadM_ntrans a b
theorem HeapF.min {f : Nat → Mom} {n : Nat} (h : HeapF f n) : ∀ i, i < n → aheadM (f i) (f 0) = false := by
 intro i
 induction i using Nat.strongRecOn with
 | _ i ih =>
  intro hi
  by_cases h0 : i = 0
  ·subst h0; exact aheadM_self _
  ·exact aheadM_ntrans (h i (by omega) hi) (ih ((i - 1) / 2) (by omega) (by omega))
def InjF (f : Nat → Mom) (n : Nat) : Prop := ∀ i j, i < n → j < n → f i = f j → i = j
structure MomsOf (f : Nat → Mom) (n : Nat) (q : List Ev) : Prop where
 len : q.length = n
 inj : InjF f n
 sub : ∀ i, i < n → ∃ e, e ∈ q ∧ f i = e.mom
 sup : ∀ e, e ∈ q → ∃ i, i < n ∧ f i = e.mom
theorem MomsOf.cons {f : Nat → Mom} {n : Nat} {q q' : List Ev} {e : Ev} (h : MomsOf f n q) (hnew : ∀ x ∈ q, x.number ≠ e.number) (hl : q'.length = n + 1) (hq : ∀ x, x ∈ q' ↔ x = e ∨ x ∈ q) : MomsOf (putF f n e.mom) (n + 1) q' := by
 have old : ∀ k, k < n → f k ≠ e.mom := by
  intro k hk hc
  obtain ⟨x, hx, hfx⟩ := h.sub k hk
  exact hnew x hx (by rw [hfx] at hc; exact congrArg Mom.number hc)
 refine ⟨hl, ?_, ?_, ?_⟩
 ·intro a b ha hb hab
  unfold putF at hab
  by_cases h1 : a = n <;> by_cases h2 : b = n <;> simp [h1, h2] at hab
  ·omega
  ·exact absurd hab.symm (old b (by omega))
  ·exact absurd hab (old a (by omega))
  ·exact h.inj a b (by omega) (by omega) hab
 ·intro k hk
  by_cases h1 : k = n
  ·exact ⟨e, (hq e).2 (.inl rfl), by simp [putF, h1]⟩
  ·obtain ⟨x, hx, hfx⟩ := h.sub k (by omega)
   exact ⟨x, (hq x).2 (.inr hx), by simp [putF, h1, hfx]⟩
 ·intro x hx
  rcases (hq x).1 hx with rfl | hx
  ·exact ⟨n, by omega, by simp [putF]⟩
  ·obtain ⟨k, hk, hfk⟩ := h.sup x hx
   exact ⟨k, by omega, by simp [putF, show k ≠ n by omega, hfk]⟩
def Sorted (q : List Ev) : Prop := q.Pairwise (fun a b => aheadF a b = true)
def Distinct (q : List Ev) : Prop := q.Pairwise (fun a b => a.number ≠ b.number)
theorem MomsOf.first {f : Nat → Mom} {n : Nat} {e : Ev} {q : List Ev} (h : MomsOf f n (e :: q)) (hh : HeapF f n) (hs : Sorted (e :: q)) (hd : Distinct (e :: q)) : 0 < n ∧ f 0 = e.mom := by
 have hn : 0 < n := by have := h.len; simp at this; omega
 refine ⟨hn, ?_⟩
 obtain ⟨x, hx, hfx⟩ := h.sub 0 hn
 rcases List.mem_cons.1 hx with rfl | hx
 ·exact hfx
 ·have h1 := (List.pairwise_cons.1 hs).1 x hx
  obtain ⟨k, hk, hfk⟩ := h.sup e (by simp)
  have := hh.min k hk
  rw [hfk, hfx, ← aheadF_mom, h1] at this
  cases this
def posF (e : Ev) : List Ev → Nat
 | [] => 0
 | x :: q => if aheadF x e then posF e q + 1 else 0
def insF (e : Ev) (q : List Ev) : List Ev := q.take (posF e q) ++ e :: q.drop (posF e q)
def outF (n : Int) (q : List Ev) : List Ev := q.filter (fun e => decide (e.number ≠ n))
theorem outF_mem (n : Int) (q : List Ev) (x : Ev) : x ∈ outF n q ↔ x ∈ q ∧ x.number ≠ n := by simp [outF]
theorem outF_distinct {n : Int} {q : List Ev} (h : Distinct q) : Distinct (outF n q) := List.Pairwise.filter _ h
theorem outF_none {n : Int} {q : List Ev} (h : ∀ x ∈ q, x.number ≠ n) : outF n q = q := List.filter_eq_self.2 (by simpa using h)
theorem outF_length {n : Int} : ∀ {q : List Ev}, Distinct q → ∀ {e : Ev}, e ∈ q → e.number = n → (outF n q).length + 1 = q.length
 | x :: q, hd, e, he, hen => by
  obtain ⟨h1, h2⟩ := List.pairwise_cons.1 hd
  rcases List.mem_cons.1 he with rfl | he
  ·have : outF n q = q := outF_none (fun y hy => by rw [← hen]; exact (h1 y hy).symm)
   simp [outF, hen] at this ⊢
   exact this
  ·have ih := outF_length h2 he hen
   have hx : x.number ≠ n := by rw [← hen]; exact h1 e he
   simp [outF, hx] at ih ⊢
   omega
structure Rec where
 e : Ev
 told : List Int
theorem Tryz.infoR : (Tryz.prog.info? 46).map (fun i => (i.zero, i.size, i.bytes)) = some (some (.agg #[.int .i64 0, .int .i64 0, .int .i64 0, .int .i64 0, .slice none 0 0]), 5, 56) := by kernel_rfl
structure RecC where
 e : Ev
 sa : Option Addr
 n : Nat
 sc : Nat
def RecC.v (x : RecC) : Value := .agg #[.int .i64 x.e.number, .int .i64 x.e.time, .int .i64 x.e.kind, .int .i64 x.e.entity, .slice x.sa x.n x.sc]
def RecC.cells (x : RecC) : List Value := [.int .i64 x.e.number, .int .i64 x.e.time, .int .i64 x.e.kind, .int .i64 x.e.entity, .slice x.sa x.n x.sc]
def recCells (l : List RecC) : List Value := l.flatMap RecC.cells
theorem recCells_get : ∀ (l : List RecC) (i r : Nat), r < 5 → (recCells l)[i * 5 + r]? = l[i]?.bind fun x => (x.cells)[r]?
 | [], i, r, _ => by simp [recCells]
 | x :: l, 0, r, h => by
  have : r = 0 ∨ r = 1 ∨ r = 2 ∨ r = 3 ∨ r = 4 := by omega
  rcases this with rfl | rfl | rfl | rfl | rfl <;> simp [recCells, RecC.cells]
 | x :: l, i + 1, r, h => by
  have ih := recCells_get l i r h
  have e : (i + 1) * 5 + r = (i * 5 + r) + 1 + 1 + 1 + 1 + 1 := by omega
  rw [e]
  simpa [recCells, RecC.cells] using ih
def ToldIn (w : World) (sa : Option Addr) (l : List Int) : Prop := ∀ (k : Nat) t, l[k]? = some t → ∃ g o, sa = some ⟨g, o, none⟩ ∧ w.cell? ⟨g, o + k, none⟩ = some (.int .i64 t)
def RecIn (w : World) (a : Option Addr) (rs : List Rec) : Prop := ∀ (i : Nat) r, rs[i]? = some r → ∃ b off sa sc, a = some ⟨b, off, none⟩ ∧ w.cell? ⟨b, off + i * 5, none⟩ = some (.int .i64 r.e.number) ∧ w.cell? ⟨b, off + i * 5 + 1, none⟩ = some (.int .i64 r.e.time) ∧ w.cell? ⟨b, off + i * 5 + 2, none⟩ = some (.int .i64 r.e.kind) ∧ w.cell? ⟨b, off + i * 5 + 3, none⟩ = some (.int .i64 r.e.entity) ∧
  w.cell? ⟨b, off + i * 5 + 4, none⟩ = some (.slice sa r.told.length sc) ∧ ToldIn w sa r.told
theorem ToldIn.below {w w' : World} {sa : Option Addr} {l : List Int} (h : ToldIn w sa l) (hb : Below w.heap.size w w') : ToldIn w' sa l := by
 intro k t ht
 obtain ⟨g, o, h1, h2⟩ := h k t ht
 exact ⟨g, o, h1, below_at hb h2 (lt_of_cell h2)⟩
theorem RecIn.below {w w' : World} {a : Option Addr} {rs : List Rec} (h : RecIn w a rs) (hb : Below w.heap.size w w') : RecIn w' a rs := by
 intro i r hr
 obtain ⟨b, off, sa, sc, h0, c0, c1, c2, c3, c4, ct⟩ := h i r hr
 exact ⟨b, off, sa, sc, h0, below_at hb c0 (lt_of_cell c0), below_at hb c1 (lt_of_cell c1), below_at hb c2 (lt_of_cell c2), below_at hb c3 (lt_of_cell c3), below_at hb c4 (lt_of_cell c4), ct.below hb⟩
def valsF (l : List Int) : Bool := l.all fun n => inB n (-1000000000) 1000000000
def recOkF (ahead : Int) (r : Rec) : Bool := inB r.e.number 0 1000000000 && (inB r.e.time ahead 1000000000000 && (inB r.e.kind 0 7 && (inB r.e.entity 0 7 && (decide (r.told.length ≤ 16) && valsF r.told))))
def recsOkF : Int → List Rec → Bool
 | _, [] => true
 | ahead, r :: rs => recOkF ahead r && recsOkF r.e.time rs
def areF (rs : List Rec) : Bool := decide (rs.length ≤ 1000) && recsOkF 0 rs
def byteV (l : List Int) : List Value := l.map (Value.int .u8)
theorem byteV_append (a b : List Int) : byteV (a ++ b) = byteV a ++ byteV b := by simp [byteV]
theorem byteV_length (a : List Int) : (byteV a).length = a.length := by simp [byteV]
theorem byteV_one (l : List Int) : ∀ u ∈ byteV l, u.oneCell' = true := by
 intro v hv; simp [byteV] at hv; obtain ⟨x, _, rfl⟩ := hv; rfl
theorem Tryz.infoU8 : (Tryz.prog.info? 5).map (fun i => (i.zero, i.size, i.bytes)) = some (some (.int .u8 0), 1, 1) := by kernel_rfl
def Clear (fz : Nat × Nat) (n : Nat) : Prop := ∀ i, i < n → ¬ (fz.1 ≤ i ∧ i < fz.2)
theorem run_storeCells_clear {P : Program} (g o : Nat) (t : TypeId) (fz : Nat × Nat) : ∀ (vs : List Value) (i : Nat) (cur : Array Value) (w : World), w.heap[g]? = some (.cells cur t fz) → Clear fz cur.size → o + i + vs.length ≤ cur.size → (∀ v ∈ vs, v.oneCell' = true) →
  (storeCells ⟨g, o, none⟩ vs i).run P w = .ok () (w.setRow g (cur.toList.take (o + i) ++ vs ++ cur.toList.drop (o + i + vs.length)).toArray)
 | [], i, cur, w, hg, _, _, _ => by
  simp only [storeCells, List.append_nil, List.length_nil, Nat.add_zero, List.take_append_drop, Array.toArray_toList]
  rw [setRow_self w g cur t fz hg]
  rfl
 | v :: rest, i, cur, w, hg, hz, hl, h1 => by
  have hi : o + i < cur.size := by simp at hl; omega
  have hadd : (⟨g, o, none⟩ : Addr).add i = ⟨g, o + i, none⟩ := by unfold Addr.add; split <;> simp_all
  have hcell : w.cell? ⟨g, o + i, none⟩ = some cur[o + i] := by simp [World.cell?, hg, hi]
  have hfro : w.frozen? ⟨g, o + i, none⟩ = false := by
   obtain ⟨lo, hi'⟩ := fz
   have := hz (o + i) hi
   simp only [World.frozen?, hg]
   simp only [Bool.and_eq_false_iff, decide_eq_false_iff_not]
   simp only at this
   omega
  have hst : (store ((⟨g, o, none⟩ : Addr).add i) v).run P w = .ok () (w.setRow g (cur.setIfInBounds (o + i) v)) := by
   rw [hadd, run_store P w _ v _ (h1 v (by simp)), hcell]
   simp [hfro, setCell_eq_setRow w g (o + i) cur t fz v hg]
  have ih := run_storeCells_clear (P := P) g o t fz rest (i + 1) (cur.setIfInBounds (o + i) v) (w.setRow g (cur.setIfInBounds (o + i) v)) (setRow_heap w g cur _ t _ hg) (by simpa using hz) (by simp at hl ⊢; omega) (fun x hx => h1 x (by simp [hx]))
  simp only [storeCells, Sem.run_bind, hst, Result.andThen_ok, ih, setRow_setRow]
  congr 3
  have e := list_seg_step cur.toList (o + i) v rest (by simp at hl ⊢; omega)
  simpa [Array.toList_setIfInBounds, Nat.add_assoc] using e
def BRow (base : Nat) (w : World) (lv : Value) (l : List Int) : Prop :=
 ∃ g cap cur fz, lv = .slice (some ⟨g, 0, none⟩) l.length cap ∧ base ≤ g ∧ w.heap[g]? = some (.cells cur 5 fz) ∧ Clear fz cur.size ∧ l.length ≤ cap ∧ cap ≤ maxLen ∧ cur.size = cap ∧ cur.toList.take l.length = byteV l
theorem BRow.row {base : Nat} {w : World} {lv : Value} {l : List Int} (h : BRow base w lv l) : ∃ g cap, lv = .slice (some ⟨g, 0, none⟩) l.length cap ∧ base ≤ g ∧ g < w.heap.size ∧ RowAt w g 0 (byteV l) := by
 obtain ⟨g, cap, cur, fz, rfl, hb, hg, hz, h1, h2, h3, h4⟩ := h
 refine ⟨g, cap, rfl, hb, (Array.getElem?_eq_some_iff.1 hg).1, fun j v hv => ?_⟩
 have hj : j < l.length := by have := (List.getElem?_eq_some_iff.1 hv).1; simpa [byteV] using this
 rw [← h4, List.getElem?_take, if_pos hj] at hv
 simp only [World.cell?, hg, Nat.zero_add]
 simpa using hv
theorem BRow.keep {base : Nat} {w w' : World} {lv : Value} {l : List Int} {U : Nat → Prop} (h : BRow base w lv l) (ho : Only U w w') (hU : ∀ b, some b = lv.ownBlock → ¬ U b) : BRow base w' lv l := by
 obtain ⟨g, cap, cur, fz, rfl, hb, hg, r⟩ := h
 have hl := (Array.getElem?_eq_some_iff.1 hg).1
 exact ⟨g, cap, cur, fz, rfl, hb, (ho.block g hl (hU g rfl)).trans hg, r⟩
theorem BRow.lt {base : Nat} {w : World} {lv : Value} {l : List Int} (h : BRow base w lv l) : ∀ b, some b = lv.ownBlock → base ≤ b ∧ b < w.heap.size := by
 obtain ⟨g, cap, rfl, h1, h2, _⟩ := h.row
 intro b hb
 simp [Value.ownBlock] at hb
 omega
theorem BRow.form {base : Nat} {w : World} {lv : Value} {l : List Int} (h : BRow base w lv l) : ∃ g cap, lv = .slice (some ⟨g, 0, none⟩) l.length cap := by
 obtain ⟨g, cap, _, _, rfl, _⟩ := h; exact ⟨g, cap, rfl⟩
theorem BRow.mono {base base' : Nat} {w : World} {lv : Value} {l : List Int} (h : BRow base w lv l) (hb : base' ≤ base) : BRow base' w lv l := by
 obtain ⟨g, cap, cur, fz, rfl, h1, r⟩ := h
 exact ⟨g, cap, cur, fz, rfl, by omega, r⟩
theorem run_append_b {P : Program} {w : World} (base : Nat) (t ty : TypeId) (ht : P.underlying t = some (.slice 5)) (i : TypeInfo) (hi : P.info? 5 = some i) (hz : i.zero = some (.int .u8 0)) (hs : i.size = 1) (hby : i.bytes = 1)
  (lv : Value) (l : List Int) (h : BRow base w lv l) (a : Addr) (c : Nat) (x : List Int) (hnews : ∀ j u, (byteV x)[j]? = some u → w.cell? (a.add j) = some u) (hbytes : l.length + x.length ≤ 140737488355328) (hbase : base ≤ w.heap.size) :
  ∃ v' w', (Builtin.append_ #[t, t] ty #[lv, .slice (some a) x.length c]).run P w = .ok v' w' ∧ BRow base w' v' (l ++ x) ∧ w.grownBy w' lv.ownBlock ∧ (v'.ownBlock = lv.ownBlock ∨ v'.ownBlock = some w.heap.size) := by
 have hrow := h.row
 obtain ⟨g, cap, cur, fz, rfl, hb, hg, hcl, h1, h2, h3, h4⟩ := h
 have hl : (byteV x).length = x.length * i.size := by simp [byteV, hs]
 by_cases hroom : l.length + x.length ≤ cap
 ·have hf := run_firstCells_some (P := P) w i.size x.length a x.length c (byteV x) hl hnews
  have hst := run_storeCells_clear (P := P) g (l.length * i.size) 5 fz (byteV x) 0 cur w hg hcl (by rw [hs, byteV_length]; omega) (byteV_one x)
  simp only [Nat.add_zero] at hst
  have hr : (Builtin.append_ #[t, t] ty #[.slice (some ⟨g, 0, none⟩) l.length cap, .slice (some a) x.length c]).run P w = .ok (.slice (some ⟨g, 0, none⟩) (l.length + x.length) cap) (w.setRow g (cur.toList.take (l.length * i.size) ++ byteV x ++ cur.toList.drop (l.length * i.size + (byteV x).length)).toArray) := by
   simp [Builtin.append_, run_underlying ht, sizeOf, typeInfo, hi, Builtin.lenOf, hroom, hf, Addr.add_lit, hst]
  refine ⟨_, _, hr, ?_, ⟨rfl, rfl, rfl, by simp [World.setRow], fun k _ hk => setRow_other w g k _ (fun e => hk (by simp [Value.ownBlock, e]))⟩, .inl rfl⟩
  refine ⟨g, cap, _, fz, by simp, hb, setRow_heap w g cur _ _ _ hg, ?_, by simp; omega, h2, ?_, ?_⟩
  ·simp only [hs, Nat.mul_one, List.size_toArray, List.length_append, List.length_take, List.length_drop, Array.length_toList, byteV_length]
   rw [show min l.length cur.size + x.length + (cur.size - (l.length + x.length)) = cur.size by omega]
   exact hcl
  ·simp only [hs, Nat.mul_one, List.size_toArray, List.length_append, List.length_take, List.length_drop, Array.length_toList, byteV_length]
   omega
  ·simp only [hs, Nat.mul_one, h4]
   rw [byteV_append, show (l ++ x).length = (byteV l ++ byteV x).length by simp [byteV]]
   exact List.take_left
 ·obtain ⟨g', cap', he, _, _, hrw⟩ := hrow
  simp only [Value.slice.injEq, Option.some.injEq, Addr.mk.injEq] at he
  obtain ⟨⟨rfl, _⟩, _, rfl⟩ := he
  have holds : ∀ (j : Nat) u, (byteV l)[j]? = some u → w.cell? ((⟨g, 0, none⟩ : Addr).add j) = some u := fun j u hu => by rw [Addr.add_lit]; exact hrw j u hu
  have hr := run_append_grow (P := P) w t ty 5 i (.int .u8 0) ht hi hz ⟨g, 0, none⟩ l.length cap (byteV l) (by simp [byteV, hs]) holds a x.length c (byteV x) hl hnews (by omega) (by omega) (growslice_fits (by omega) (by rw [hby]; omega))
  refine ⟨_, _, hr, ?_, ⟨rfl, rfl, rfl, by simp, fun k hk _ => heap_alloc_old w.drew _ hk⟩, .inr rfl⟩
  have hge := grownCap_ge w (l.length + x.length) cap 5
  have hcm : grownCap w (l.length + x.length) cap 5 ≤ maxLen := grownCap_le_maxLen w (l.length + x.length) cap 5 (by simp only [maxLen]; omega)
  refine ⟨w.heap.size, _, _, (0, 0), by simp, hbase, heap_alloc_new w.drew _, by intro i hi; simp, by simp; omega, hcm, ?_, ?_⟩
  ·simp only [Array.size_append, List.size_toArray, size_zeroCells, byteV_length]
   simp [Value.cells]
   omega
  ·simp only [Array.toList_append]
   rw [byteV_append, show (l ++ x).length = (byteV l ++ byteV x).length by simp [byteV]]
   exact List.take_left
theorem wpList_append_b {P : Program} {w : World} {ops : Array Oper} {rest : List Oper} {o : Oper} {a : Act} {Q : Exit → Act → World → Prop} (hgd : o.guard = none) (s x : Operand) (t : TypeId)
  (ho : o.op = .call { callee := .builtin .append, args := #[s, x], argTypes := #[t, t] }) (base : Nat) (ht : P.underlying t = some (.slice 5)) (hinfo : (P.info? 5).map (fun i => (i.zero, i.size, i.bytes)) = some (some (.int .u8 0), 1, 1))
  (lv : Value) (l : List Int) (hs : a.eval s = lv) (h : BRow base w lv l) (b off c : Nat) (y : List Int) (hx : a.eval x = .slice (some ⟨b, off, none⟩) y.length c) (hnews : RowAt w b off (byteV y)) (hbytes : l.length + y.length ≤ 140737488355328) (hbase : base ≤ w.heap.size)
  (hK : ∀ v' w', Hid (BRow base w' v' (l ++ y)) → Hid (w.grownBy w' lv.ownBlock) → Hid (v'.ownBlock = lv.ownBlock ∨ v'.ownBlock = some w.heap.size) → wpList P ops Q rest (a.put o.dst v') w') : wpList P ops Q (o :: rest) a w := by
 obtain ⟨i, hi, hz, hsz, hby⟩ := info_parts hinfo
 obtain ⟨v', w', hr, h2, h3, h4⟩ := run_append_b (P := P) base t o.type ht i hi hz hsz hby lv l h ⟨b, off, none⟩ c y (fun j u hu => by rw [Addr.add_lit]; exact hnews j u hu) hbytes hbase
 refine wpList_plain hgd fun K hK' => ?_
 unfold Oper.wp
 simp [execOp, ho, resolve, invoke, builtin, hs, hx, hr, Result.andThen]
 exact hK' _ _ (hK v' w' h2 h3 h4)
def numF : Nat → Int → List Int
 | 0, n => [n]
 | k + 1, n => if 127 < n then (n % 128 + 128) :: numF k (n / 128) else [n]
def numB (n : Int) : List Int := numF 9 n
def sgnI (n : Int) : Int := if n < 0 then -2 * n - 1 else 2 * n
def sgnB (n : Int) : List Int := numB (sgnI n)
structure WrP (base : Nat) (w : World) (wb : Nat) (lv : Value) (l : List Int) : Prop where
 cell : w.cell? ⟨wb, 0, none⟩ = some lv
 room : Room w wb 1
 row : BRow base w lv l
 sep : ¬ some wb = lv.ownBlock
def WSet (wb : Nat) (lv : Value) (b : Nat) : Prop := b = wb ∨ some b = lv.ownBlock
def MovedV (w : World) (lv lv' : Value) : Prop := lv'.ownBlock = lv.ownBlock ∨ ∃ g, lv'.ownBlock = some g ∧ w.heap.size ≤ g
theorem owns_form1 {w : World} {base : Nat} {e : TypeId} {size : Nat} {v : Value} {n : Nat} {xs : List Value} (h : w.ownsRow base e size v n xs) : ∃ sa sc, v = .slice sa n sc := by
 rcases owns_row h with ⟨rfl, rfl, _⟩ | ⟨g, cap, rfl, _⟩
 ·exact ⟨_, _, rfl⟩
 ·exact ⟨_, _, rfl⟩
theorem only_of_grown {w w' : World} {row : Option Nat} (h : w.grownBy w' row) : Only (fun b => some b = row) w w' := ⟨h.os, h.tape, h.output, h.size, fun k hk hn => h.block k hk hn⟩
theorem Only.chain {S T : Nat → Prop} {a b c : World} (h : Only S a b) (k : Only T b c) (ht : ∀ i, i < a.heap.size → T i → S i) : Only S a c :=
 ⟨k.os.trans h.os, k.tape.trans h.tape, k.output.trans h.output, Nat.le_trans h.size k.size, fun i hi hs => (k.block i (Nat.lt_of_lt_of_le hi h.size) (fun x => hs (ht i hi x))).trans (h.block i hi hs)⟩
theorem owns_keep {w w' : World} {base : Nat} {e : TypeId} {size : Nat} {v : Value} {n : Nat} {xs : List Value} {U : Nat → Prop} (h : w.ownsRow base e size v n xs) (ho : Only U w w') (hU : ∀ b, some b = v.ownBlock → ¬ U b) : w'.ownsRow base e size v n xs := by
 obtain ⟨h1, h2⟩ := h
 refine ⟨h1, ?_⟩
 rcases h2 with h2 | ⟨g, cap, cur, rfl, hg, hc, r⟩
 ·exact .inl h2
 ·have hl := (Array.getElem?_eq_some_iff.1 hc).1
  exact .inr ⟨g, cap, cur, rfl, hg, (ho.block g hl (hU g rfl)).trans hc, r⟩
theorem numF_bytes : ∀ (k : Nat) (n : Int), 0 ≤ n → n < 128 ^ (k + 1) → ∀ b ∈ numF k n, 0 ≤ b ∧ b < 256
 | 0, n, h0, h1, b, hb => by simp [numF] at hb; subst hb; simp at h1; omega
 | k + 1, n, h0, h1, b, hb => by
  rw [numF] at hb
  split at hb
  ·rcases List.mem_cons.1 hb with rfl | hb
   ·omega
   ·refine numF_bytes k (n / 128) (by omega) ?_ b hb
    rw [Int.pow_succ] at h1
    omega
  ·simp at hb; subst hb; omega
theorem numF_len : ∀ (k : Nat) (n : Int), (numF k n).length ≤ k + 1
 | 0, n => by simp [numF]
 | k + 1, n => by
  rw [numF]
  split
  ·have := numF_len k (n / 128)
   simp; omega
  ·simp
structure NumR (base : Nat) (w wr : World) (wb : Nat) (lv0 lv : Value) (l : List Int) : Prop where
 only : Only (WSet wb lv0) w wr
 moved : MovedV w lv0 lv
 wr : WrP base wr wb lv l
theorem NumR.step {base : Nat} {w wr w2 : World} {wb : Nat} {lv0 lv lv2 : Value} {l : List Int} {x : Int} {o1 : Obj} (h : NumR base w wr wb lv0 lv l) (hb : base ≤ w.heap.size) (hg : (wr.alloc o1).grownBy w2 lv.ownBlock) (hown : BRow base w2 lv2 (l ++ [x]))
  (hwh : lv2.ownBlock = lv.ownBlock ∨ lv2.ownBlock = some (wr.heap.size + 1)) : NumR base w (w2.setCell ⟨wb, 0, none⟩ lv2) wb lv0 lv2 (l ++ [x]) := by
 have hz := h.only.size
 have hwl := lt_of_cell h.wr.cell
 have hbA : Below wr.heap.size wr (wr.alloc o1) := (Below.refl _ _).alloc (Nat.le_refl _) _
 have hO : Only (fun b => some b = lv.ownBlock) wr w2 := (Only.new hbA).trans (only_of_grown hg)
 have hOs : Only (· = wb) w2 (w2.setCell ⟨wb, 0, none⟩ lv2) := Only.setCell (S := (· = wb)) (Only.refl _ _) (p := ⟨wb, 0, none⟩) rfl _
 have hr2 : Room w2 wb 1 := h.wr.room.only hO h.wr.sep
 have hsep2 : ¬ some wb = lv2.ownBlock := by
  rcases hwh with e | e
  ·rw [e]; exact h.wr.sep
  ·rw [e]; intro hc; simp at hc; omega
 have hmv : MovedV w lv0 lv2 := by
  rcases hwh with e | e
  ·rcases h.moved with e' | ⟨g, e', hg'⟩
   ·exact .inl (e.trans e')
   ·exact .inr ⟨g, e.trans e', hg'⟩
  ·exact .inr ⟨_, e, by omega⟩
 refine ⟨?_, hmv, ⟨World.cell?_setCell_same' _ _ _ (hr2 0 (by omega)).1, hr2.setCell _ _, ?_, hsep2⟩⟩
 ·refine (h.only.chain hO ?_).chain hOs (fun k _ hk => .inl hk)
  intro k hk hc
  rcases h.moved with e' | ⟨g, e', hg'⟩
  ·exact .inr (hc.trans e')
  ·rw [e'] at hc; simp at hc; omega
 ·exact hown.keep hOs (fun b hb hc => hsep2 (by rw [← hc]; exact hb))
theorem byteOf (n : Int) (h0 : 0 ≤ n) (h1 : n < 256) : IntKind.u8.wrap n = n := by
 simp [IntKind.wrap, IntKind.bits, IntKind.signed]
 omega
theorem row_one (w : World) (v : Value) (T : TypeId) : RowAt (w.alloc (.cells #[v] T)) w.heap.size 0 [v] := by
 intro j u hu
 have hj : j < 1 := by have := (List.getElem?_eq_some_iff.1 hu).1; simpa using this
 obtain rfl : j = 0 := by omega
 simp at hu
 subst hu
 rw [World.cell?_alloc_at _ _ _ _ rfl]; rfl
theorem number_any (base wb : Nat) (lv : Value) (l : List Int) (n : Int) (w : World) (h : WrP base w wb lv l) (hb : base ≤ w.heap.size) (hl : l.length ≤ 1000000) (hn : 0 ≤ n ∧ n ≤ 9223372036854775807) :
  Calls Tryz.prog 110 #[.pointer (some ⟨wb, 0, none⟩), .int .i64 n] w fun e w' => e = .returned (.tuple #[]) ∧ ∃ lv', NumR base w w' wb lv lv' (l ++ numB n) := by
 have H := hide h
 clear h
 go_enter Tryz.func110, Tryz.ntmps110
 go_wp2_with fail
 go_loopg [1] 11 (fun g s1 wr => ∃ (f : Nat) (m : Int) (lv2 : Value) (ld : List Int), s1 = .int .i64 m ∧ f + 1 ≤ g ∧ f ≤ 9 ∧ 0 ≤ m ∧ m ≤ 9223372036854775807 ∧ ld.length + f = l.length + 9 ∧ Hid (m < 128 ^ (f + 1) ∧ NumR base w wr wb lv lv2 ld ∧ ld ++ numF f m = l ++ numB n))
 case atStart => exact ⟨9, n, lv, l, rfl, by omega, by omega, hn.1, hn.2, by omega, by simp; omega, ⟨Only.refl _ _, .inl rfl, H.out⟩, rfl⟩
 case round =>
  obtain ⟨f, m, lv2, ld, rfl, hg, hf, hm0, hm1, hdl, hI⟩ := hrel
  have hc := hI.out.2.1.wr.cell
  have hfz := (hI.out.2.1.wr.room 0 (by omega)).2
  have hzr := hI.out.2.1.only.size
  have hrow := hide hI.out.2.1.wr.row
  have hsep := hide hI.out.2.1.wr.sep
  by_cases h127 : 127 < m
  ·obtain ⟨f', rfl⟩ : ∃ f', f = f' + 1 := by
    rcases f with _ | f'
    ·have := hI.out.1; simp at this; omega
    ·exact ⟨f', rfl⟩
   have d1 : decide (127 < m) = true := by simpa using h127
   have hr : m.tmod 128 = m % 128 := Int.tmod_eq_emod_of_nonneg (by omega)
   have hq : m.tdiv 128 = m / 128 := Int.tdiv_eq_ediv_of_nonneg (by omega)
   have w1 : IntKind.i64.wrap (m % 128) = m % 128 := by rw [IntKind.wrap_i64]; omega
   have w2 : IntKind.i64.wrap (m % 128 + 128) = m % 128 + 128 := by rw [IntKind.wrap_i64]; omega
   have w3 : IntKind.u8.wrap (m % 128 + 128) = m % 128 + 128 := byteOf _ (by omega) (by omega)
   have w4 : IntKind.i64.wrap (m / 128) = m / 128 := by rw [IntKind.wrap_i64]; omega
   go_wp2_with (at_builtin; refine wpList_append_b rfl (.tmp 10) (.tmp 15) 56 rfl base Tryz.underlying56 Tryz.infoU8 _ ld rfl (hrow.out.keep (Only.new (S := fun _ => False) ((Below.refl _ _).alloc (Nat.le_refl _) _)) (by simp)) _ 0 _ [m % 128 + 128] rfl ?_ (by simp; omega) (by simp; omega) ?_)
   ·exact row_one _ _ _
   intro v5 w5 hown5 hgr5 hwh5
   have hS := hide (hI.out.2.1.step hb hgr5.out hown5.out hwh5.out)
   have hbA : Below wr.heap.size wr (wr.alloc (.cells #[.int .u8 (m % 128 + 128)] 5)) := (Below.refl _ _).alloc (Nat.le_refl _) _
   have hO : Only (fun b => some b = lv2.ownBlock) wr w5 := (Only.new hbA).trans (only_of_grown hgr5.out)
   have hc5 := hO.at hc hsep.out
   have hf5 := ((hI.out.2.1.wr.room.only hO hsep.out) 0 (by omega)).2
   obtain ⟨sa5, sc5, rfl⟩ := hown5.out.form
   have hS2 := hS.out
   simp only [List.length_append, List.length_cons, List.length_nil, Nat.zero_add] at hS2
   have HS2 := hide hS2
   clear hS2 hS
   clear hbA hO hc hfz
   go_wp2_with fail
   go_roundg (f' + 1)
   case measure => omega
   case rel =>
    refine ⟨f', m / 128, _, ld ++ [m % 128 + 128], rfl, by omega, by omega, by omega, by omega, by simp; omega, ?_, HS2.out, ?_⟩
    ·have := hI.out.1
     rw [Int.pow_succ] at this
     omega
    ·have := hI.out.2.2
     rw [numF, if_pos h127] at this
     rw [← this]; simp
  ·have d1 : decide (127 < m) = false := by simpa using h127
   have w3 : IntKind.u8.wrap m = m := byteOf _ (by omega) (by omega)
   go_wp2_with (at_builtin; refine wpList_append_b rfl (.tmp 25) (.tmp 28) 56 rfl base Tryz.underlying56 Tryz.infoU8 _ ld rfl (hrow.out.keep (Only.new (S := fun _ => False) ((Below.refl _ _).alloc (Nat.le_refl _) _)) (by simp)) _ 0 _ [m] rfl ?_ (by simp; omega) (by simp; omega) ?_)
   ·exact row_one _ _ _
   intro v5 w5 hown5 hgr5 hwh5
   have hS := hide (hI.out.2.1.step hb hgr5.out hown5.out hwh5.out)
   have hbA : Below wr.heap.size wr (wr.alloc (.cells #[.int .u8 m] 5)) := (Below.refl _ _).alloc (Nat.le_refl _) _
   have hO : Only (fun b => some b = lv2.ownBlock) wr w5 := (Only.new hbA).trans (only_of_grown hgr5.out)
   have hc5 := hO.at hc hsep.out
   have hf5 := ((hI.out.2.1.wr.room.only hO hsep.out) 0 (by omega)).2
   obtain ⟨sa5, sc5, rfl⟩ := hown5.out.form
   have hS2 := hS.out
   simp only [List.length_append, List.length_cons, List.length_nil, Nat.zero_add] at hS2
   have HS2 := hide hS2
   clear hS2 hS
   clear hbA hO hc hfz
   go_wp2_with fail
   go_end0
   have hfin : ld ++ [m] = l ++ numB n := by
    have := hI.out.2.2
    rcases f with _ | f'
    ·exact this
    ·rw [numF, if_neg (by omega)] at this; exact this
   exact ⟨rfl, _, by rw [← hfin]; exact HS2.out⟩
theorem NumR.trans {base : Nat} {w w1 w2 : World} {wb : Nat} {lv lv1 lv2 : Value} {l l2 : List Int} (h : NumR base w w1 wb lv lv1 l) (k : NumR base w1 w2 wb lv1 lv2 l2) : NumR base w w2 wb lv lv2 l2 := by
 have hz := h.only.size
 refine ⟨h.only.chain k.only ?_, ?_, k.wr⟩
 ·rintro i hi (hc | hc)
  ·exact .inl hc
  ·rcases h.moved with e | ⟨g, e, hg⟩
   ·exact .inr (hc.trans e)
   ·rw [e] at hc; simp at hc; omega
 ·rcases k.moved with e | ⟨g, e, hg⟩
  ·rcases h.moved with e' | ⟨g', e', hg'⟩
   ·exact .inl (e.trans e')
   ·exact .inr ⟨g', e.trans e', hg'⟩
  ·exact .inr ⟨g, e, by omega⟩
theorem numB_len (n : Int) : (numB n).length ≤ 10 := numF_len 9 n
theorem signed_any (base wb : Nat) (lv : Value) (l : List Int) (n : Int) (w : World) (h : WrP base w wb lv l) (hb : base ≤ w.heap.size) (hl : l.length ≤ 1000000) (hn : -1000000000 ≤ n ∧ n ≤ 1000000000) :
  Calls Tryz.prog 111 #[.pointer (some ⟨wb, 0, none⟩), .int .i64 n] w fun e w' => e = .returned (.tuple #[]) ∧ ∃ lv', NumR base w w' wb lv lv' (l ++ sgnB n) := by
 have H := hide h
 clear h
 by_cases h0 : n < 0
 ·have d1 : decide (n < 0) = true := by simpa using h0
  have w1 : IntKind.i64.wrap (-2 * n) = -2 * n := by rw [IntKind.wrap_i64]; omega
  have w2 : IntKind.i64.wrap (-2 * n - 1) = -2 * n - 1 := by rw [IntKind.wrap_i64]; omega
  have hs : sgnB n = numB (-2 * n - 1) := by simp [sgnB, sgnI, h0]
  go_enter Tryz.func111, Tryz.ntmps111
  go_wp2_with fail
  refine (number_any base wb lv l _ w H.out hb hl (by omega)).mono ?_
  rintro e w1 ⟨rfl, lv', hN⟩
  go_wp2_with fail
  go_end0
  exact ⟨rfl, lv', hs ▸ hN⟩
 ·have d1 : decide (n < 0) = false := by simpa using h0
  have w1 : IntKind.i64.wrap (2 * n) = 2 * n := by rw [IntKind.wrap_i64]; omega
  have hs : sgnB n = numB (2 * n) := by simp [sgnB, sgnI, h0]
  go_enter Tryz.func111, Tryz.ntmps111
  go_wp2_with fail
  refine (number_any base wb lv l _ w H.out hb hl (by omega)).mono ?_
  rintro e w1 ⟨rfl, lv', hN⟩
  go_wp2_with fail
  go_end0
  exact ⟨rfl, lv', hs ▸ hN⟩
end Go.Proofs.YtndlmgocldckfaaGreat
