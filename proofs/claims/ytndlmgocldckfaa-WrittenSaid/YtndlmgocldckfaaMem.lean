import Derived.Test.YtndlmgocldckfaaData
import Derived.Laws.CopyOwn
namespace Go.Proofs.Ytndlmgocldckfaa
open Go.RowKit
set_option linter.unusedVariables false
set_option linter.unusedSimpArgs false

/-! Memory that is written: frames, and the laws for make and copy. -/

/-- Of the blocks that were there only those of S have turned. -/
structure Only (S : Nat → Prop) (w w' : World) : Prop where
  os : w'.os = w.os
  tape : w'.tape = w.tape
  output : w'.output = w.output
  size : w.heap.size ≤ w'.heap.size
  block : ∀ k, k < w.heap.size → ¬ S k → w'.heap[k]? = w.heap[k]?

theorem Only.refl (S : Nat → Prop) (w : World) : Only S w w := ⟨rfl, rfl, rfl, Nat.le_refl _, fun _ _ _ => rfl⟩
theorem Only.trans {S : Nat → Prop} {a b c : World} (h : Only S a b) (k : Only S b c) : Only S a c :=
  ⟨k.os.trans h.os, k.tape.trans h.tape, k.output.trans h.output, Nat.le_trans h.size k.size, fun i hi hs => (k.block i (Nat.lt_of_lt_of_le hi h.size) hs).trans (h.block i hi hs)⟩
theorem Only.mono {S S' : Nat → Prop} {w w' : World} (h : Only S w w') (hs : ∀ k, k < w.heap.size → S k → S' k) : Only S' w w' :=
  ⟨h.os, h.tape, h.output, h.size, fun k hk hn => h.block k hk (fun x => hn (hs k hk x))⟩
theorem Only.ofBelow {B : Nat} {S : Nat → Prop} {w w' : World} (h : Below B w w') (hs : ∀ k, B ≤ k → k < w.heap.size → S k) : Only S w w' :=
  ⟨h.os, h.tape, h.output, h.size, fun k hk hn => h.block k (Nat.lt_of_not_le fun hB => hn (hs k hB hk))⟩
theorem Only.new {S : Nat → Prop} {w w' : World} (h : Below w.heap.size w w') : Only S w w' := Only.ofBelow h (fun k h1 h2 => absurd h2 (by omega))
theorem Only.below {S : Nat → Prop} {B : Nat} {w w' : World} (h : Only S w w') (hB : B ≤ w.heap.size) (hs : ∀ k, k < B → ¬ S k) : Below B w w' :=
  ⟨h.os, h.tape, h.output, h.size, fun k hk => h.block k (by omega) (hs k hk)⟩
theorem Only.at {S : Nat → Prop} {w w' : World} (h : Only S w w') {b o : Nat} {v : Value} (hc : w.cell? ⟨b, o, none⟩ = some v) (hs : ¬ S b) : w'.cell? ⟨b, o, none⟩ = some v := by
  have hb : b < w.heap.size := by
    unfold World.cell? at hc
    split at hc
    · exact (Array.getElem?_eq_some_iff.1 (by assumption)).1
    · simp at hc
  exact (World.cell?_of_block (w := w) (a := ⟨b, o, none⟩) (h.block b hb hs)).trans hc
theorem Only.setCell {S : Nat → Prop} {a w : World} (h : Only S a w) {p : Addr} (hp : S p.block) (u : Value) : Only S a (w.setCell p u) :=
  h.trans ⟨rfl, rfl, rfl, by simp [World.setCell], fun k hk hn => Below.heap_setCell _ _ _ _ (fun e => hn (e ▸ hp))⟩

theorem heap_new (w : World) (o : Obj) : (w.alloc o).heap[w.heap.size]? = some o := by show (w.heap.push o)[w.heap.size]? = _; simp

theorem lt_of_cellA {w : World} {p : Addr} {v : Value} (hc : w.cell? p = some v) : p.block < w.heap.size := by
  unfold World.cell? at hc
  split at hc
  · exact (Array.getElem?_eq_some_iff.1 (by assumption)).1
  · simp at hc

theorem lt_of_cell {w : World} {b o : Nat} {v : Value} (hc : w.cell? ⟨b, o, none⟩ = some v) : b < w.heap.size := by
  unfold World.cell? at hc
  split at hc
  · exact (Array.getElem?_eq_some_iff.1 (by assumption)).1
  · simp at hc

/-- A row of values lies from cell 'off' of block b on. -/
def RowAt (w : World) (b off : Nat) (X : List Value) : Prop := ∀ j v, X[j]? = some v → w.cell? ⟨b, off + j, none⟩ = some v
/-- The first n cells of a block are there, and none is frozen. -/
def Room (w : World) (b n : Nat) : Prop := ∀ j, j < n → (w.cell? ⟨b, j, none⟩).isSome = true ∧ w.frozen? ⟨b, j, none⟩ = false

theorem RowAt.only {S : Nat → Prop} {w w' : World} {b off : Nat} {X : List Value} (h : RowAt w b off X) (ho : Only S w w') (hs : ¬ S b) : RowAt w' b off X :=
  fun j v hv => ho.at (h j v hv) hs
theorem RowAt.below {B : Nat} {w w' : World} {b off : Nat} {X : List Value} (h : RowAt w b off X) (ho : Below B w w') (hs : b < B) : RowAt w' b off X :=
  fun j v hv => below_at ho (h j v hv) hs
theorem Room.only {S : Nat → Prop} {w w' : World} {b n : Nat} (h : Room w b n) (ho : Only S w w') (hs : ¬ S b) : Room w' b n := by
  intro j hj
  obtain ⟨h1, h2⟩ := h j hj
  obtain ⟨v, hv⟩ := Option.isSome_iff_exists.1 h1
  have hb := lt_of_cell hv
  refine ⟨by rw [ho.at hv hs]; rfl, ?_⟩
  rw [World.frozen?_of_block (w := w) (a := ⟨b, j, none⟩) (ho.block b hb hs)]; exact h2
theorem Room.below {B : Nat} {w w' : World} {b n : Nat} (h : Room w b n) (ho : Below B w w') (hs : b < B) : Room w' b n :=
  fun j hj => ⟨by rw [ho.cell (p := ⟨b, j, none⟩) hs]; exact (h j hj).1, by rw [ho.frozen (p := ⟨b, j, none⟩) hs]; exact (h j hj).2⟩
theorem Room.setCell {w : World} {b n : Nat} (h : Room w b n) (p : Addr) (v : Value) : Room (w.setCell p v) b n := by
  intro j hj
  obtain ⟨h1, h2⟩ := h j hj
  refine ⟨?_, ?_⟩
  · by_cases hp : p = ⟨b, j, none⟩
    · subst hp
      rw [World.cell?_setCell_same' _ _ _ h1]; rfl
    · rw [World.cell?_setCell_other _ _ _ _ hp]; exact h1
  · rw [World.frozen?_setCell]; exact h2

theorem RowAt.setCell {w : World} {b off : Nat} {X : List Value} (h : RowAt w b off X) (p : Addr) (v : Value) (hp : ∀ j, j < X.length → p ≠ ⟨b, off + j, none⟩) : RowAt (w.setCell p v) b off X := by
  intro j u hu
  have hj : j < X.length := (List.getElem?_eq_some_iff.1 hu).1
  rw [World.cell?_setCell_other _ _ _ _ (hp j hj)]; exact h j u hu
theorem RowAt.snoc {w : World} {b off n : Nat} {X : List Value} (hn : n < X.length) (h : RowAt w b off (X.take n)) (v : Value) (hX : X[n]? = some v) (hc : (w.cell? ⟨b, off + n, none⟩).isSome = true) :
    RowAt (w.setCell ⟨b, off + n, none⟩ v) b off (X.take (n + 1)) := by
  intro j u hu
  by_cases hj : j = n
  · subst hj
    rw [List.getElem?_take, if_pos (by omega), hX] at hu
    cases hu
    exact World.cell?_setCell_same' _ _ _ hc
  · have hlt : j < n + 1 := by
      have := (List.getElem?_eq_some_iff.1 hu).1
      simp at this; omega
    rw [World.cell?_setCell_other _ _ _ _ (by simp; try omega)]
    refine h j u ?_
    rw [List.getElem?_take, if_pos (by omega)] at hu ⊢
    exact hu

/-- 'make([]T, n)': the new block, written out. -/
theorem wpList_make_alloc {P : Program} (w : World) {ops : Array Oper} {rest : List Oper} {o : Oper} {a : Act} {Q : Exit → Act → World → Prop}
    (hg : o.guard = none) (l c : Operand) (t : TypeId) (hop : o.op = Op.makeSlice t l c)
    (e : TypeId) (z : Value) (size bytes : Nat) (h1 : P.underlying t = some (.slice e)) (h2 : (P.info? e).map (fun i => (i.zero, i.size, i.bytes)) = some (some z, size, bytes))
    (kl kc : IntKind) (L C : Int) (n : Nat) (hl : a.eval l = .int kl L) (hc : a.eval c = .int kc C) (hL : L = (n : Int)) (hC : C = (n : Int)) (b2 : bytes * n ≤ 281474976710656) (b3 : n ≤ 9223372036854775807)
    (hK : wpList P ops Q rest (a.put o.dst (.slice (some ⟨w.heap.size, 0, none⟩) n n)) (w.alloc (.cells (madeCells z.cells (n * size)) e))) :
    wpList P ops Q (o :: rest) a w := by
  obtain ⟨i, hi, hz, hsz, hby⟩ := info_parts h2
  subst hby
  refine wpList_plain hg fun K hK' => ?_
  have hb' : (i.bytes : Int) * (n : Int) ≤ 281474976710656 := by
    have h : ((i.bytes * n : Nat) : Int) ≤ 281474976710656 := by omega
    rwa [Int.natCast_mul] at h
  have hr := run_make (P := P) w t e i z h1 hi hz kl kc n n (by omega) (Int.le_refl _) hb' (by omega)
  simp only [Int.toNat_natCast] at hr
  subst hL
  subst hC
  subst hsz
  unfold Oper.wp
  simp [execOp, hop, hl, hc, hr, Result.andThen]
  exact hK' _ _ hK

/-- What 'make' has laid: zeroes of one cell. -/
theorem madeCells_one (z : Value) (n j : Nat) (h : j < n) : (madeCells #[z] n)[j]? = some z := by
  simp [madeCells, h, Nat.mod_one]

theorem room_made (w : World) (z : Array Value) (n : Nat) (e : TypeId) : Room (w.alloc (.cells (madeCells z n) e)) w.heap.size n := by
  intro j hj
  rw [World.cell?_alloc_at _ _ _ _ rfl, World.frozen?_alloc_at _ _ _ _ rfl]
  refine ⟨?_, rfl⟩
  have : j < (madeCells z n).size := by rw [size_madeCells]; exact hj
  simp [this]

theorem row_made (w : World) (z : Value) (n : Nat) (e : TypeId) : RowAt (w.alloc (.cells (madeCells #[z] n) e)) w.heap.size 0 (List.replicate n z) := by
  intro j v hv
  have hj : j < n := by simpa using (List.getElem?_eq_some_iff.1 hv).1
  have : v = z := by rw [List.getElem?_replicate, if_pos hj] at hv; exact (Option.some.inj hv).symm
  subst this
  rw [World.cell?_alloc_at _ _ _ _ rfl, Nat.zero_add]
  exact madeCells_one v n j hj

/-- 'copy(dst, src)', dst the head of a row of the call's own that has room, src whatever lies elsewhere. -/
theorem wpList_copy_cells {P : Program} {w : World} {ops : Array Oper} {rest : List Oper} {o : Oper} {a : Act} {Q : Exit → Act → World → Prop} (hgd : o.guard = none) (d s : Operand) (dT sT : TypeId)
    (ho : o.op = .call { callee := .builtin .copy, args := #[d, s], argTypes := #[dT, sT] }) (elem : TypeId) (hu : P.underlying dT = some (.slice elem)) (size : Nat) (hsz : (P.info? elem).map (·.size) = some size)
    (g dLen dCap : Nat) (ad : Addr) (sLen sCap : Nat) (hd : a.eval d = .slice (some ⟨g, 0, none⟩) dLen dCap) (hs : a.eval s = .slice (some ad) sLen sCap) (hle : sLen ≤ dLen)
    (cur : Array Value) (t : TypeId) (hg : w.heap[g]? = some (.cells cur t (0, 0))) (cs : List Value) (hn : cs.length = sLen * size)
    (hsrc : ∀ j v, cs[j]? = some v → w.cell? (ad.add j) = some v) (hfit : cs.length ≤ cur.size) (h1 : ∀ v ∈ cs, v.oneCell' = true)
    (h : ∀ w', Only (· = g) w w' → RowAt w' g 0 cs → Room w' g cur.size → w'.heap.size = w.heap.size → wpList P ops Q rest (a.put o.dst (goInt sLen)) w') : wpList P ops Q (o :: rest) a w := by
  refine wpList_plain hgd fun K hK => ?_
  have hl := run_loadCells_list (P := P) w ad cs hsrc
  have hst := run_storeCells_at P g 0 t cs 0 cur w hg (by simpa using hfit) h1
  have hmin : Nat.min sLen dLen = sLen := Nat.min_eq_left hle
  obtain ⟨i, hi, his⟩ := Option.map_eq_some_iff.1 hsz
  subst his
  have hrun : (Builtin.copy_ #[dT, sT] o.type #[.slice (some ⟨g, 0, none⟩) dLen dCap, .slice (some ad) sLen sCap]).run P w = .ok (goInt sLen) (w.setRow g (cs ++ cur.toList.drop cs.length).toArray) := by
    simp at hst
    simp [Builtin.copy_, run_underlying hu, Builtin.lenOf, Builtin.firstCells, sizeOf, typeInfo, hi, hmin, ← hn, hl, hst]
  have hH := setRow_heap w g cur (cs ++ cur.toList.drop cs.length).toArray t _ hg
  unfold Oper.wp
  simp [execOp, ho, resolve, invoke, builtin, hd, hs, hrun, Result.andThen]
  refine hK _ _ (h _ ⟨rfl, rfl, rfl, by simp [World.setRow], fun k hk hn => setRow_other w g k _ hn⟩ ?_ ?_ (by simp [World.setRow]))
  · intro j v hv
    have hj : j < cs.length := (List.getElem?_eq_some_iff.1 hv).1
    simp [World.cell?, hH, List.getElem?_append, hj, ← hv]
  · intro j hj
    have : j < (cs ++ cur.toList.drop cs.length).length := by simp; omega
    simp only [World.cell?, World.frozen?, hH]
    simp
    omega
end Go.Proofs.Ytndlmgocldckfaa
