import Derived.Test.YtndlmgocldckfaaGreatAaZ
import Derived.Laws.CopyRow
import Derived.BigRegion
import Derived.BigQuiet
import Derived.Deep.QuietTactic
import Derived.Deep.LoopGhost
import Derived.RegionTactic
import Derived.Deep.RegionHeld3
namespace Go.Proofs.YtndlmgocldckfaaGreat
open Go.RowKit
set_option linter.unusedVariables false
set_option linter.unusedSimpArgs false

/-! Records, as they are and as they lie. -/

structure Rec where
  e : Ev
  told : List Int

theorem Tryz.infoR : (Tryz.prog.info? 46).map (fun i => (i.zero, i.size, i.bytes)) = some (some (.agg #[.int .i64 0, .int .i64 0, .int .i64 0, .int .i64 0, .slice none 0 0]), 5, 56) := by kernel_rfl

/-- A record as it lies. -/
structure RecC where
  e : Ev
  sa : Option Addr
  n : Nat
  sc : Nat
def RecC.v (x : RecC) : Value := .agg #[.int .i64 x.e.number, .int .i64 x.e.time, .int .i64 x.e.kind, .int .i64 x.e.entity, .slice x.sa x.n x.sc]
def RecC.cells (x : RecC) : List Value := [.int .i64 x.e.number, .int .i64 x.e.time, .int .i64 x.e.kind, .int .i64 x.e.entity, .slice x.sa x.n x.sc]
def recCells (l : List RecC) : List Value := l.flatMap RecC.cells

theorem recCells_get : ∀ (l : List RecC) (i r : Nat), r < 5 → (recCells l)[i * 5 + r]? = l[i]?.bind fun x => (x.cells)[r]?
  | [], i, r, _ => by simp [recCells]
  | x :: l, 0, r, h => by
    have : r = 0 ∨ r = 1 ∨ r = 2 ∨ r = 3 ∨ r = 4 := by omega
    rcases this with rfl | rfl | rfl | rfl | rfl <;> simp [recCells, RecC.cells]
  | x :: l, i + 1, r, h => by
    have ih := recCells_get l i r h
    have e : (i + 1) * 5 + r = (i * 5 + r) + 1 + 1 + 1 + 1 + 1 := by omega
    rw [e]
    simpa [recCells, RecC.cells] using ih

theorem recCells_length (l : List RecC) : (recCells l).length = l.length * 5 := by
  induction l with
  | nil => rfl
  | cons x l ih => simp [recCells, RecC.cells] at ih ⊢; omega

/-- Numbers that were told, as they lie. -/
def ToldIn (w : World) (sa : Option Addr) (l : List Int) : Prop := ∀ (k : Nat) t, l[k]? = some t → ∃ g o, sa = some ⟨g, o, none⟩ ∧ w.cell? ⟨g, o + k, none⟩ = some (.int .i64 t)
/-- Records as they lie, from an address on. -/
def RecIn (w : World) (a : Option Addr) (rs : List Rec) : Prop := ∀ (i : Nat) r, rs[i]? = some r → ∃ b off sa sc, a = some ⟨b, off, none⟩ ∧ w.cell? ⟨b, off + i * 5, none⟩ = some (.int .i64 r.e.number) ∧ w.cell? ⟨b, off + i * 5 + 1, none⟩ = some (.int .i64 r.e.time) ∧ w.cell? ⟨b, off + i * 5 + 2, none⟩ = some (.int .i64 r.e.kind) ∧ w.cell? ⟨b, off + i * 5 + 3, none⟩ = some (.int .i64 r.e.entity) ∧
    w.cell? ⟨b, off + i * 5 + 4, none⟩ = some (.slice sa r.told.length sc) ∧ ToldIn w sa r.told

theorem ToldIn.below {w w' : World} {sa : Option Addr} {l : List Int} (h : ToldIn w sa l) (hb : Below w.heap.size w w') : ToldIn w' sa l := by
  intro k t ht
  obtain ⟨g, o, h1, h2⟩ := h k t ht
  exact ⟨g, o, h1, below_at hb h2 (lt_of_cell h2)⟩
theorem RecIn.below {w w' : World} {a : Option Addr} {rs : List Rec} (h : RecIn w a rs) (hb : Below w.heap.size w w') : RecIn w' a rs := by
  intro i r hr
  obtain ⟨b, off, sa, sc, h0, c0, c1, c2, c3, c4, ct⟩ := h i r hr
  exact ⟨b, off, sa, sc, h0, below_at hb c0 (lt_of_cell c0), below_at hb c1 (lt_of_cell c1), below_at hb c2 (lt_of_cell c2), below_at hb c3 (lt_of_cell c3), below_at hb c4 (lt_of_cell c4), ct.below hb⟩

/-! May they be written? -/
def valsF (l : List Int) : Bool := l.all fun n => inB n (-1000000000) 1000000000
def recOkF (ahead : Int) (r : Rec) : Bool := inB r.e.number 0 1000000000 && (inB r.e.time ahead 1000000000000 && (inB r.e.kind 0 7 && (inB r.e.entity 0 7 && (decide (r.told.length ≤ 16) && valsF r.told))))
def recsOkF : Int → List Rec → Bool
  | _, [] => true
  | ahead, r :: rs => recOkF ahead r && recsOkF r.e.time rs
def areF (rs : List Rec) : Bool := decide (rs.length ≤ 1000) && recsOkF 0 rs
end Go.Proofs.YtndlmgocldckfaaGreat

namespace Go.Proofs.YtndlmgocldckfaaGreat
open Go.RowKit
set_option linter.unusedVariables false
set_option linter.unusedSimpArgs false

/-! Rows of bytes that a conversion has made: they bear a mark behind their end. -/

def byteV (l : List Int) : List Value := l.map (Value.int .u8)
theorem byteV_append (a b : List Int) : byteV (a ++ b) = byteV a ++ byteV b := by simp [byteV]
theorem byteV_length (a : List Int) : (byteV a).length = a.length := by simp [byteV]
theorem byteV_one (l : List Int) : ∀ u ∈ byteV l, u.oneCell' = true := by
  intro v hv; simp [byteV] at hv; obtain ⟨x, _, rfl⟩ := hv; rfl

theorem Tryz.infoU8 : (Tryz.prog.info? 5).map (fun i => (i.zero, i.size, i.bytes)) = some (some (.int .u8 0), 1, 1) := by kernel_rfl

def Clear (fz : Nat × Nat) (n : Nat) : Prop := ∀ i, i < n → ¬ (fz.1 ≤ i ∧ i < fz.2)

theorem run_storeCells_clear {P : Program} (g o : Nat) (t : TypeId) (fz : Nat × Nat) : ∀ (vs : List Value) (i : Nat) (cur : Array Value) (w : World), w.heap[g]? = some (.cells cur t fz) → Clear fz cur.size → o + i + vs.length ≤ cur.size → (∀ v ∈ vs, v.oneCell' = true) →
    (storeCells ⟨g, o, none⟩ vs i).run P w = .ok () (w.setRow g (cur.toList.take (o + i) ++ vs ++ cur.toList.drop (o + i + vs.length)).toArray)
  | [], i, cur, w, hg, _, _, _ => by
    simp only [storeCells, List.append_nil, List.length_nil, Nat.add_zero, List.take_append_drop, Array.toArray_toList]
    rw [setRow_self w g cur t fz hg]
    rfl
  | v :: rest, i, cur, w, hg, hz, hl, h1 => by
    have hi : o + i < cur.size := by simp at hl; omega
    have hadd : (⟨g, o, none⟩ : Addr).add i = ⟨g, o + i, none⟩ := by unfold Addr.add; split <;> simp_all
    have hcell : w.cell? ⟨g, o + i, none⟩ = some cur[o + i] := by simp [World.cell?, hg, hi]
    have hfro : w.frozen? ⟨g, o + i, none⟩ = false := by
      obtain ⟨lo, hi'⟩ := fz
      have := hz (o + i) hi
      simp only [World.frozen?, hg]
      simp only [Bool.and_eq_false_iff, decide_eq_false_iff_not]
      simp only at this
      omega
    have hst : (store ((⟨g, o, none⟩ : Addr).add i) v).run P w = .ok () (w.setRow g (cur.setIfInBounds (o + i) v)) := by
      rw [hadd, run_store P w _ v _ (h1 v (by simp)), hcell]
      simp [hfro, setCell_eq_setRow w g (o + i) cur t fz v hg]
    have ih := run_storeCells_clear (P := P) g o t fz rest (i + 1) (cur.setIfInBounds (o + i) v) (w.setRow g (cur.setIfInBounds (o + i) v)) (setRow_heap w g cur _ t _ hg) (by simpa using hz) (by simp at hl ⊢; omega) (fun x hx => h1 x (by simp [hx]))
    simp only [storeCells, Sem.run_bind, hst, Result.andThen_ok, ih, setRow_setRow]
    congr 3
    have e := list_seg_step cur.toList (o + i) v rest (by simp at hl ⊢; omega)
    simpa [Array.toList_setIfInBounds, Nat.add_assoc] using e

/-- A row of bytes of the call's own. -/
def BRow (base : Nat) (w : World) (lv : Value) (l : List Int) : Prop :=
  ∃ g cap cur fz, lv = .slice (some ⟨g, 0, none⟩) l.length cap ∧ base ≤ g ∧ w.heap[g]? = some (.cells cur 5 fz) ∧ Clear fz cur.size ∧ l.length ≤ cap ∧ cap ≤ maxLen ∧ cur.size = cap ∧ cur.toList.take l.length = byteV l

theorem BRow.row {base : Nat} {w : World} {lv : Value} {l : List Int} (h : BRow base w lv l) : ∃ g cap, lv = .slice (some ⟨g, 0, none⟩) l.length cap ∧ base ≤ g ∧ g < w.heap.size ∧ RowAt w g 0 (byteV l) := by
  obtain ⟨g, cap, cur, fz, rfl, hb, hg, hz, h1, h2, h3, h4⟩ := h
  refine ⟨g, cap, rfl, hb, (Array.getElem?_eq_some_iff.1 hg).1, fun j v hv => ?_⟩
  have hj : j < l.length := by have := (List.getElem?_eq_some_iff.1 hv).1; simpa [byteV] using this
  rw [← h4, List.getElem?_take, if_pos hj] at hv
  simp only [World.cell?, hg, Nat.zero_add]
  simpa using hv
theorem BRow.keep {base : Nat} {w w' : World} {lv : Value} {l : List Int} {U : Nat → Prop} (h : BRow base w lv l) (ho : Only U w w') (hU : ∀ b, some b = lv.ownBlock → ¬ U b) : BRow base w' lv l := by
  obtain ⟨g, cap, cur, fz, rfl, hb, hg, r⟩ := h
  have hl := (Array.getElem?_eq_some_iff.1 hg).1
  exact ⟨g, cap, cur, fz, rfl, hb, (ho.block g hl (hU g rfl)).trans hg, r⟩
theorem BRow.lt {base : Nat} {w : World} {lv : Value} {l : List Int} (h : BRow base w lv l) : ∀ b, some b = lv.ownBlock → base ≤ b ∧ b < w.heap.size := by
  obtain ⟨g, cap, rfl, h1, h2, _⟩ := h.row
  intro b hb
  simp [Value.ownBlock] at hb
  omega
theorem BRow.form {base : Nat} {w : World} {lv : Value} {l : List Int} (h : BRow base w lv l) : ∃ g cap, lv = .slice (some ⟨g, 0, none⟩) l.length cap := by
  obtain ⟨g, cap, _, _, rfl, _⟩ := h; exact ⟨g, cap, rfl⟩
theorem BRow.mono {base base' : Nat} {w : World} {lv : Value} {l : List Int} (h : BRow base w lv l) (hb : base' ≤ base) : BRow base' w lv l := by
  obtain ⟨g, cap, cur, fz, rfl, h1, r⟩ := h
  exact ⟨g, cap, cur, fz, rfl, by omega, r⟩

/-- What is appended to such a row. -/
theorem run_append_b {P : Program} {w : World} (base : Nat) (t ty : TypeId) (ht : P.underlying t = some (.slice 5)) (i : TypeInfo) (hi : P.info? 5 = some i) (hz : i.zero = some (.int .u8 0)) (hs : i.size = 1) (hby : i.bytes = 1)
    (lv : Value) (l : List Int) (h : BRow base w lv l) (a : Addr) (c : Nat) (x : List Int) (hnews : ∀ j u, (byteV x)[j]? = some u → w.cell? (a.add j) = some u) (hbytes : l.length + x.length ≤ 140737488355328) (hbase : base ≤ w.heap.size) :
    ∃ v' w', (Builtin.append_ #[t, t] ty #[lv, .slice (some a) x.length c]).run P w = .ok v' w' ∧ BRow base w' v' (l ++ x) ∧ w.grownBy w' lv.ownBlock ∧ (v'.ownBlock = lv.ownBlock ∨ v'.ownBlock = some w.heap.size) := by
  have hrow := h.row
  obtain ⟨g, cap, cur, fz, rfl, hb, hg, hcl, h1, h2, h3, h4⟩ := h
  have hl : (byteV x).length = x.length * i.size := by simp [byteV, hs]
  by_cases hroom : l.length + x.length ≤ cap
  · have hf := run_firstCells_some (P := P) w i.size x.length a x.length c (byteV x) hl hnews
    have hst := run_storeCells_clear (P := P) g (l.length * i.size) 5 fz (byteV x) 0 cur w hg hcl (by rw [hs, byteV_length]; omega) (byteV_one x)
    simp only [Nat.add_zero] at hst
    have hr : (Builtin.append_ #[t, t] ty #[.slice (some ⟨g, 0, none⟩) l.length cap, .slice (some a) x.length c]).run P w = .ok (.slice (some ⟨g, 0, none⟩) (l.length + x.length) cap) (w.setRow g (cur.toList.take (l.length * i.size) ++ byteV x ++ cur.toList.drop (l.length * i.size + (byteV x).length)).toArray) := by
      simp [Builtin.append_, run_underlying ht, sizeOf, typeInfo, hi, Builtin.lenOf, hroom, hf, Addr.add_lit, hst]
    refine ⟨_, _, hr, ?_, ⟨rfl, rfl, rfl, by simp [World.setRow], fun k _ hk => setRow_other w g k _ (fun e => hk (by simp [Value.ownBlock, e]))⟩, .inl rfl⟩
    refine ⟨g, cap, _, fz, by simp, hb, setRow_heap w g cur _ _ _ hg, ?_, by simp; omega, h2, ?_, ?_⟩
    · simp only [hs, Nat.mul_one, List.size_toArray, List.length_append, List.length_take, List.length_drop, Array.length_toList, byteV_length]
      rw [show min l.length cur.size + x.length + (cur.size - (l.length + x.length)) = cur.size by omega]
      exact hcl
    · simp only [hs, Nat.mul_one, List.size_toArray, List.length_append, List.length_take, List.length_drop, Array.length_toList, byteV_length]
      omega
    · simp only [hs, Nat.mul_one, h4]
      rw [byteV_append, show (l ++ x).length = (byteV l ++ byteV x).length by simp [byteV]]
      exact List.take_left
  · obtain ⟨g', cap', he, _, _, hrw⟩ := hrow
    simp only [Value.slice.injEq, Option.some.injEq, Addr.mk.injEq] at he
    obtain ⟨⟨rfl, _⟩, _, rfl⟩ := he
    have holds : ∀ (j : Nat) u, (byteV l)[j]? = some u → w.cell? ((⟨g, 0, none⟩ : Addr).add j) = some u := fun j u hu => by rw [Addr.add_lit]; exact hrw j u hu
    have hr := run_append_grow (P := P) w t ty 5 i (.int .u8 0) ht hi hz ⟨g, 0, none⟩ l.length cap (byteV l) (by simp [byteV, hs]) holds a x.length c (byteV x) hl hnews (by omega) (by omega) (growslice_fits (by omega) (by rw [hby]; omega))
    refine ⟨_, _, hr, ?_, ⟨rfl, rfl, rfl, by simp, fun k hk _ => heap_alloc_old w.drew _ hk⟩, .inr rfl⟩
    have hge := grownCap_ge w (l.length + x.length) cap 5
    have hcm : grownCap w (l.length + x.length) cap 5 ≤ maxLen := grownCap_le_maxLen w (l.length + x.length) cap 5 (by simp only [maxLen]; omega)
    refine ⟨w.heap.size, _, _, (0, 0), by simp, hbase, heap_alloc_new w.drew _, by intro i hi; simp, by simp; omega, hcm, ?_, ?_⟩
    · simp only [Array.size_append, List.size_toArray, size_zeroCells, byteV_length]
      simp [Value.cells]
      omega
    · simp only [Array.toList_append]
      rw [byteV_append, show (l ++ x).length = (byteV l ++ byteV x).length by simp [byteV]]
      exact List.take_left

theorem wpList_append_b {P : Program} {w : World} {ops : Array Oper} {rest : List Oper} {o : Oper} {a : Act} {Q : Exit → Act → World → Prop} (hgd : o.guard = none) (s x : Operand) (t : TypeId)
    (ho : o.op = .call { callee := .builtin .append, args := #[s, x], argTypes := #[t, t] }) (base : Nat) (ht : P.underlying t = some (.slice 5)) (hinfo : (P.info? 5).map (fun i => (i.zero, i.size, i.bytes)) = some (some (.int .u8 0), 1, 1))
    (lv : Value) (l : List Int) (hs : a.eval s = lv) (h : BRow base w lv l) (b off c : Nat) (y : List Int) (hx : a.eval x = .slice (some ⟨b, off, none⟩) y.length c) (hnews : RowAt w b off (byteV y)) (hbytes : l.length + y.length ≤ 140737488355328) (hbase : base ≤ w.heap.size)
    (hK : ∀ v' w', Hid (BRow base w' v' (l ++ y)) → Hid (w.grownBy w' lv.ownBlock) → Hid (v'.ownBlock = lv.ownBlock ∨ v'.ownBlock = some w.heap.size) → wpList P ops Q rest (a.put o.dst v') w') : wpList P ops Q (o :: rest) a w := by
  obtain ⟨i, hi, hz, hsz, hby⟩ := info_parts hinfo
  obtain ⟨v', w', hr, h2, h3, h4⟩ := run_append_b (P := P) base t o.type ht i hi hz hsz hby lv l h ⟨b, off, none⟩ c y (fun j u hu => by rw [Addr.add_lit]; exact hnews j u hu) hbytes hbase
  refine wpList_plain hgd fun K hK' => ?_
  unfold Oper.wp
  simp [execOp, ho, resolve, invoke, builtin, hs, hx, hr, Result.andThen]
  exact hK' _ _ (hK v' w' h2 h3 h4)
end Go.Proofs.YtndlmgocldckfaaGreat

namespace Go.Proofs.YtndlmgocldckfaaGreat
open Go.RowKit
set_option linter.unusedVariables false
set_option linter.unusedSimpArgs false

/-! Numbers as bytes. -/

def numF : Nat → Int → List Int
  | 0, n => [n]
  | k + 1, n => if 127 < n then (n % 128 + 128) :: numF k (n / 128) else [n]
def numB (n : Int) : List Int := numF 9 n
def sgnI (n : Int) : Int := if n < 0 then -2 * n - 1 else 2 * n
def sgnB (n : Int) : List Int := numB (sgnI n)

/-- A writer as it lies. -/
structure WrP (base : Nat) (w : World) (wb : Nat) (lv : Value) (l : List Int) : Prop where
  cell : w.cell? ⟨wb, 0, none⟩ = some lv
  room : Room w wb 1
  row : BRow base w lv l
  sep : ¬ some wb = lv.ownBlock

def WSet (wb : Nat) (lv : Value) (b : Nat) : Prop := b = wb ∨ some b = lv.ownBlock
def MovedV (w : World) (lv lv' : Value) : Prop := lv'.ownBlock = lv.ownBlock ∨ ∃ g, lv'.ownBlock = some g ∧ w.heap.size ≤ g

theorem owns_form1 {w : World} {base : Nat} {e : TypeId} {size : Nat} {v : Value} {n : Nat} {xs : List Value} (h : w.ownsRow base e size v n xs) : ∃ sa sc, v = .slice sa n sc := by
  rcases owns_row h with ⟨rfl, rfl, _⟩ | ⟨g, cap, rfl, _⟩
  · exact ⟨_, _, rfl⟩
  · exact ⟨_, _, rfl⟩
theorem only_of_grown {w w' : World} {row : Option Nat} (h : w.grownBy w' row) : Only (fun b => some b = row) w w' := ⟨h.os, h.tape, h.output, h.size, fun k hk hn => h.block k hk hn⟩

theorem Only.chain {S T : Nat → Prop} {a b c : World} (h : Only S a b) (k : Only T b c) (ht : ∀ i, i < a.heap.size → T i → S i) : Only S a c :=
  ⟨k.os.trans h.os, k.tape.trans h.tape, k.output.trans h.output, Nat.le_trans h.size k.size, fun i hi hs => (k.block i (Nat.lt_of_lt_of_le hi h.size) (fun x => hs (ht i hi x))).trans (h.block i hi hs)⟩
theorem owns_keep {w w' : World} {base : Nat} {e : TypeId} {size : Nat} {v : Value} {n : Nat} {xs : List Value} {U : Nat → Prop} (h : w.ownsRow base e size v n xs) (ho : Only U w w') (hU : ∀ b, some b = v.ownBlock → ¬ U b) : w'.ownsRow base e size v n xs := by
  obtain ⟨h1, h2⟩ := h
  refine ⟨h1, ?_⟩
  rcases h2 with h2 | ⟨g, cap, cur, rfl, hg, hc, r⟩
  · exact .inl h2
  · have hl := (Array.getElem?_eq_some_iff.1 hc).1
    exact .inr ⟨g, cap, cur, rfl, hg, (ho.block g hl (hU g rfl)).trans hc, r⟩

theorem numF_bytes : ∀ (k : Nat) (n : Int), 0 ≤ n → n < 128 ^ (k + 1) → ∀ b ∈ numF k n, 0 ≤ b ∧ b < 256
  | 0, n, h0, h1, b, hb => by simp [numF] at hb; subst hb; simp at h1; omega
  | k + 1, n, h0, h1, b, hb => by
    rw [numF] at hb
    split at hb
    · rcases List.mem_cons.1 hb with rfl | hb
      · omega
      · refine numF_bytes k (n / 128) (by omega) ?_ b hb
        rw [Int.pow_succ] at h1
        omega
    · simp at hb; subst hb; omega

theorem numF_len : ∀ (k : Nat) (n : Int), (numF k n).length ≤ k + 1
  | 0, n => by simp [numF]
  | k + 1, n => by
    rw [numF]
    split
    · have := numF_len k (n / 128)
      simp; omega
    · simp

structure NumR (base : Nat) (w wr : World) (wb : Nat) (lv0 lv : Value) (l : List Int) : Prop where
  only : Only (WSet wb lv0) w wr
  moved : MovedV w lv0 lv
  wr : WrP base wr wb lv l

theorem NumR.step {base : Nat} {w wr w2 : World} {wb : Nat} {lv0 lv lv2 : Value} {l : List Int} {x : Int} {o1 : Obj} (h : NumR base w wr wb lv0 lv l) (hb : base ≤ w.heap.size) (hg : (wr.alloc o1).grownBy w2 lv.ownBlock) (hown : BRow base w2 lv2 (l ++ [x]))
    (hwh : lv2.ownBlock = lv.ownBlock ∨ lv2.ownBlock = some (wr.heap.size + 1)) : NumR base w (w2.setCell ⟨wb, 0, none⟩ lv2) wb lv0 lv2 (l ++ [x]) := by
  have hz := h.only.size
  have hwl := lt_of_cell h.wr.cell
  have hbA : Below wr.heap.size wr (wr.alloc o1) := (Below.refl _ _).alloc (Nat.le_refl _) _
  have hO : Only (fun b => some b = lv.ownBlock) wr w2 := (Only.new hbA).trans (only_of_grown hg)
  have hOs : Only (· = wb) w2 (w2.setCell ⟨wb, 0, none⟩ lv2) := Only.setCell (S := (· = wb)) (Only.refl _ _) (p := ⟨wb, 0, none⟩) rfl _
  have hr2 : Room w2 wb 1 := h.wr.room.only hO h.wr.sep
  have hsep2 : ¬ some wb = lv2.ownBlock := by
    rcases hwh with e | e
    · rw [e]; exact h.wr.sep
    · rw [e]; intro hc; simp at hc; omega
  have hmv : MovedV w lv0 lv2 := by
    rcases hwh with e | e
    · rcases h.moved with e' | ⟨g, e', hg'⟩
      · exact .inl (e.trans e')
      · exact .inr ⟨g, e.trans e', hg'⟩
    · exact .inr ⟨_, e, by omega⟩
  refine ⟨?_, hmv, ⟨World.cell?_setCell_same' _ _ _ (hr2 0 (by omega)).1, hr2.setCell _ _, ?_, hsep2⟩⟩
  · refine (h.only.chain hO ?_).chain hOs (fun k _ hk => .inl hk)
    intro k hk hc
    rcases h.moved with e' | ⟨g, e', hg'⟩
    · exact .inr (hc.trans e')
    · rw [e'] at hc; simp at hc; omega
  · exact hown.keep hOs (fun b hb hc => hsep2 (by rw [← hc]; exact hb))

theorem byteOf (n : Int) (h0 : 0 ≤ n) (h1 : n < 256) : IntKind.u8.wrap n = n := by
  simp [IntKind.wrap, IntKind.bits, IntKind.signed]
  omega

theorem row_one (w : World) (v : Value) (T : TypeId) : RowAt (w.alloc (.cells #[v] T)) w.heap.size 0 [v] := by
  intro j u hu
  have hj : j < 1 := by have := (List.getElem?_eq_some_iff.1 hu).1; simpa using this
  obtain rfl : j = 0 := by omega
  simp at hu
  subst hu
  rw [World.cell?_alloc_at _ _ _ _ rfl]; rfl

set_option maxRecDepth 100000 in
set_option maxHeartbeats 4000000 in
theorem number_any (base wb : Nat) (lv : Value) (l : List Int) (n : Int) (w : World) (h : WrP base w wb lv l) (hb : base ≤ w.heap.size) (hl : l.length ≤ 1000000) (hn : 0 ≤ n ∧ n ≤ 9223372036854775807) :
    Calls Tryz.prog 110 #[.pointer (some ⟨wb, 0, none⟩), .int .i64 n] w fun e w' => e = .returned (.tuple #[]) ∧ ∃ lv', NumR base w w' wb lv lv' (l ++ numB n) := by
  have H := hide h
  clear h
  go_enter Tryz.func110, Tryz.ntmps110
  go_wp2_with fail
  go_loopg [1] 11 (fun g s1 wr => ∃ (f : Nat) (m : Int) (lv2 : Value) (ld : List Int), s1 = .int .i64 m ∧ f + 1 ≤ g ∧ f ≤ 9 ∧ 0 ≤ m ∧ m ≤ 9223372036854775807 ∧ ld.length + f = l.length + 9 ∧ Hid (m < 128 ^ (f + 1) ∧ NumR base w wr wb lv lv2 ld ∧ ld ++ numF f m = l ++ numB n))
  case atStart => exact ⟨9, n, lv, l, rfl, by omega, by omega, hn.1, hn.2, by omega, by simp; omega, ⟨Only.refl _ _, .inl rfl, H.out⟩, rfl⟩
  case round =>
    obtain ⟨f, m, lv2, ld, rfl, hg, hf, hm0, hm1, hdl, hI⟩ := hrel
    have hc := hI.out.2.1.wr.cell
    have hfz := (hI.out.2.1.wr.room 0 (by omega)).2
    have hzr := hI.out.2.1.only.size
    have hrow := hide hI.out.2.1.wr.row
    have hsep := hide hI.out.2.1.wr.sep
    by_cases h127 : 127 < m
    · obtain ⟨f', rfl⟩ : ∃ f', f = f' + 1 := by
        rcases f with _ | f'
        · have := hI.out.1; simp at this; omega
        · exact ⟨f', rfl⟩
      have d1 : decide (127 < m) = true := by simpa using h127
      have hr : m.tmod 128 = m % 128 := Int.tmod_eq_emod_of_nonneg (by omega)
      have hq : m.tdiv 128 = m / 128 := Int.tdiv_eq_ediv_of_nonneg (by omega)
      have w1 : IntKind.i64.wrap (m % 128) = m % 128 := by rw [IntKind.wrap_i64]; omega
      have w2 : IntKind.i64.wrap (m % 128 + 128) = m % 128 + 128 := by rw [IntKind.wrap_i64]; omega
      have w3 : IntKind.u8.wrap (m % 128 + 128) = m % 128 + 128 := byteOf _ (by omega) (by omega)
      have w4 : IntKind.i64.wrap (m / 128) = m / 128 := by rw [IntKind.wrap_i64]; omega
      go_wp2_with (at_builtin; refine wpList_append_b rfl (.tmp 10) (.tmp 15) 56 rfl base Tryz.underlying56 Tryz.infoU8 _ ld rfl (hrow.out.keep (Only.new (S := fun _ => False) ((Below.refl _ _).alloc (Nat.le_refl _) _)) (by simp)) _ 0 _ [m % 128 + 128] rfl ?_ (by simp; omega) (by simp; omega) ?_)
      · exact row_one _ _ _
      intro v5 w5 hown5 hgr5 hwh5
      have hS := hide (hI.out.2.1.step hb hgr5.out hown5.out hwh5.out)
      have hbA : Below wr.heap.size wr (wr.alloc (.cells #[.int .u8 (m % 128 + 128)] 5)) := (Below.refl _ _).alloc (Nat.le_refl _) _
      have hO : Only (fun b => some b = lv2.ownBlock) wr w5 := (Only.new hbA).trans (only_of_grown hgr5.out)
      have hc5 := hO.at hc hsep.out
      have hf5 := ((hI.out.2.1.wr.room.only hO hsep.out) 0 (by omega)).2
      obtain ⟨sa5, sc5, rfl⟩ := hown5.out.form
      have hS2 := hS.out
      simp only [List.length_append, List.length_cons, List.length_nil, Nat.zero_add] at hS2
      have HS2 := hide hS2
      clear hS2 hS
      clear hbA hO hc hfz
      go_wp2_with fail
      go_roundg (f' + 1)
      case measure => omega
      case rel =>
        refine ⟨f', m / 128, _, ld ++ [m % 128 + 128], rfl, by omega, by omega, by omega, by omega, by simp; omega, ?_, HS2.out, ?_⟩
        · have := hI.out.1
          rw [Int.pow_succ] at this
          omega
        · have := hI.out.2.2
          rw [numF, if_pos h127] at this
          rw [← this]; simp
    · have d1 : decide (127 < m) = false := by simpa using h127
      have w3 : IntKind.u8.wrap m = m := byteOf _ (by omega) (by omega)
      go_wp2_with (at_builtin; refine wpList_append_b rfl (.tmp 25) (.tmp 28) 56 rfl base Tryz.underlying56 Tryz.infoU8 _ ld rfl (hrow.out.keep (Only.new (S := fun _ => False) ((Below.refl _ _).alloc (Nat.le_refl _) _)) (by simp)) _ 0 _ [m] rfl ?_ (by simp; omega) (by simp; omega) ?_)
      · exact row_one _ _ _
      intro v5 w5 hown5 hgr5 hwh5
      have hS := hide (hI.out.2.1.step hb hgr5.out hown5.out hwh5.out)
      have hbA : Below wr.heap.size wr (wr.alloc (.cells #[.int .u8 m] 5)) := (Below.refl _ _).alloc (Nat.le_refl _) _
      have hO : Only (fun b => some b = lv2.ownBlock) wr w5 := (Only.new hbA).trans (only_of_grown hgr5.out)
      have hc5 := hO.at hc hsep.out
      have hf5 := ((hI.out.2.1.wr.room.only hO hsep.out) 0 (by omega)).2
      obtain ⟨sa5, sc5, rfl⟩ := hown5.out.form
      have hS2 := hS.out
      simp only [List.length_append, List.length_cons, List.length_nil, Nat.zero_add] at hS2
      have HS2 := hide hS2
      clear hS2 hS
      clear hbA hO hc hfz
      go_wp2_with fail
      go_end0
      have hfin : ld ++ [m] = l ++ numB n := by
        have := hI.out.2.2
        rcases f with _ | f'
        · exact this
        · rw [numF, if_neg (by omega)] at this; exact this
      exact ⟨rfl, _, by rw [← hfin]; exact HS2.out⟩

theorem NumR.trans {base : Nat} {w w1 w2 : World} {wb : Nat} {lv lv1 lv2 : Value} {l l2 : List Int} (h : NumR base w w1 wb lv lv1 l) (k : NumR base w1 w2 wb lv1 lv2 l2) : NumR base w w2 wb lv lv2 l2 := by
  have hz := h.only.size
  refine ⟨h.only.chain k.only ?_, ?_, k.wr⟩
  · rintro i hi (hc | hc)
    · exact .inl hc
    · rcases h.moved with e | ⟨g, e, hg⟩
      · exact .inr (hc.trans e)
      · rw [e] at hc; simp at hc; omega
  · rcases k.moved with e | ⟨g, e, hg⟩
    · rcases h.moved with e' | ⟨g', e', hg'⟩
      · exact .inl (e.trans e')
      · exact .inr ⟨g', e.trans e', hg'⟩
    · exact .inr ⟨g, e, by omega⟩

theorem numB_len (n : Int) : (numB n).length ≤ 10 := numF_len 9 n

set_option maxRecDepth 100000 in
set_option maxHeartbeats 4000000 in
theorem signed_any (base wb : Nat) (lv : Value) (l : List Int) (n : Int) (w : World) (h : WrP base w wb lv l) (hb : base ≤ w.heap.size) (hl : l.length ≤ 1000000) (hn : -1000000000 ≤ n ∧ n ≤ 1000000000) :
    Calls Tryz.prog 111 #[.pointer (some ⟨wb, 0, none⟩), .int .i64 n] w fun e w' => e = .returned (.tuple #[]) ∧ ∃ lv', NumR base w w' wb lv lv' (l ++ sgnB n) := by
  have H := hide h
  clear h
  by_cases h0 : n < 0
  · have d1 : decide (n < 0) = true := by simpa using h0
    have w1 : IntKind.i64.wrap (-2 * n) = -2 * n := by rw [IntKind.wrap_i64]; omega
    have w2 : IntKind.i64.wrap (-2 * n - 1) = -2 * n - 1 := by rw [IntKind.wrap_i64]; omega
    have hs : sgnB n = numB (-2 * n - 1) := by simp [sgnB, sgnI, h0]
    go_enter Tryz.func111, Tryz.ntmps111
    go_wp2_with fail
    refine (number_any base wb lv l _ w H.out hb hl (by omega)).mono ?_
    rintro e w1 ⟨rfl, lv', hN⟩
    go_wp2_with fail
    go_end0
    exact ⟨rfl, lv', hs ▸ hN⟩
  · have d1 : decide (n < 0) = false := by simpa using h0
    have w1 : IntKind.i64.wrap (2 * n) = 2 * n := by rw [IntKind.wrap_i64]; omega
    have hs : sgnB n = numB (2 * n) := by simp [sgnB, sgnI, h0]
    go_enter Tryz.func111, Tryz.ntmps111
    go_wp2_with fail
    refine (number_any base wb lv l _ w H.out hb hl (by omega)).mono ?_
    rintro e w1 ⟨rfl, lv', hN⟩
    go_wp2_with fail
    go_end0
    exact ⟨rfl, lv', hs ▸ hN⟩
end Go.Proofs.YtndlmgocldckfaaGreat

namespace Go.Proofs.YtndlmgocldckfaaGreat
open Go.RowKit
set_option linter.unusedVariables false
set_option linter.unusedSimpArgs false

/-! Records of several runs in one list. -/

def AllSet (av : Value) (L : List RecC) (b : Nat) : Prop := some b = av.ownBlock ∨ ∃ x ∈ L, some b = (Value.slice x.sa x.n x.sc).ownBlock

structure AllR (w : World) (Z : Nat) (av : Value) (L : List RecC) (rs : List Rec) : Prop where
  len : L.length = rs.length
  row : w.ownsRow Z 46 5 av L.length (recCells L)
  rec_ : ∀ (j : Nat) x r, L[j]? = some x → rs[j]? = some r → x.e = r.e ∧ x.n = r.told.length ∧ w.ownsRow Z 3 1 (.slice x.sa x.n x.sc) r.told.length (ints r.told)
  tsep : ∀ x ∈ L, ∀ b, some b = (Value.slice x.sa x.n x.sc).ownBlock → some b ≠ av.ownBlock

theorem AllR.lt {w : World} {Z : Nat} {av : Value} {L : List RecC} {rs : List Rec} (h : AllR w Z av L rs) : ∀ b, AllSet av L b → Z ≤ b ∧ b < w.heap.size := by
  rintro b (hb | ⟨x, hx, hb⟩)
  · exact h.row.lt b hb.symm
  · obtain ⟨j, hj⟩ := List.getElem?_of_mem hx
    have hl : j < rs.length := by have := (List.getElem?_eq_some_iff.1 hj).1; have := h.len; omega
    obtain ⟨_, _, h3⟩ := h.rec_ j x rs[j] hj (List.getElem?_eq_getElem hl)
    exact h3.lt b hb.symm
theorem AllR.only {w w' : World} {Z : Nat} {av : Value} {L : List RecC} {rs : List Rec} {U : Nat → Prop} (h : AllR w Z av L rs) (ho : Only U w w') (hU : ∀ b, AllSet av L b → ¬ U b) : AllR w' Z av L rs := by
  refine ⟨h.len, owns_keep h.row ho (fun b hb => hU b (.inl hb)), fun j x r hx hr => ?_, h.tsep⟩
  obtain ⟨h1, h2, h3⟩ := h.rec_ j x r hx hr
  exact ⟨h1, h2, owns_keep h3 ho (fun b hb => hU b (.inr ⟨x, List.mem_of_getElem? hx, hb⟩))⟩
theorem AllR.nil (w : World) (Z : Nat) : AllR w Z (.slice none 0 0) [] [] :=
  ⟨rfl, World.ownsRow_nil _ _ _ _, by simp, by simp⟩
theorem recCells_one (L : List RecC) : ∀ u ∈ recCells L, u.oneCell' = true := by
  intro u hu
  obtain ⟨x, _, hx⟩ := List.mem_flatMap.1 hu
  simp only [RecC.cells, List.mem_cons, List.not_mem_nil, or_false] at hx
  rcases hx with rfl | rfl | rfl | rfl | rfl <;> rfl
theorem recCells_append (A B : List RecC) : recCells (A ++ B) = recCells A ++ recCells B := by simp [recCells]
theorem AllR.app {w w' : World} {Z : Nat} {av av' lv : Value} {A B : List RecC} {ra rb : List Rec} (h : AllR w Z av A ra) (k : AllR w Z lv B rb) (hg : w.grownBy w' av.ownBlock) (hown : w'.ownsRow Z 46 5 av' (A.length + B.length) (recCells A ++ recCells B)) (hwh : av'.ownBlock = av.ownBlock ∨ av'.ownBlock = some w.heap.size) (hdis : ∀ x ∈ B, ∀ b, some b = (Value.slice x.sa x.n x.sc).ownBlock → some b ≠ av.ownBlock) : AllR w' Z av' (A ++ B) (ra ++ rb) := by
  have ho : Only (fun b => some b = av.ownBlock) w w' := only_of_grown hg
  have hla := h.len
  have hlb := k.len
  refine ⟨by simp; omega, by rw [recCells_append, List.length_append]; exact hown, fun j x r hx hr => ?_, ?_⟩
  · by_cases hj : j < A.length
    · rw [List.getElem?_append_left hj] at hx
      rw [List.getElem?_append_left (by omega)] at hr
      obtain ⟨h1, h2, h3⟩ := h.rec_ j x r hx hr
      exact ⟨h1, h2, owns_keep h3 ho (fun b hb hc => h.tsep x (List.mem_of_getElem? hx) b hb hc)⟩
    · rw [List.getElem?_append_right (by omega)] at hx
      rw [List.getElem?_append_right (by omega)] at hr
      rw [← hla] at hr
      obtain ⟨h1, h2, h3⟩ := k.rec_ _ x r hx hr
      exact ⟨h1, h2, owns_keep h3 ho (fun b hb hc => hdis x (List.mem_of_getElem? hx) b hb hc)⟩
  · intro x hx b hb
    rcases hwh with e | e
    · rw [e]
      rcases List.mem_append.1 hx with hx | hx
      · exact h.tsep x hx b hb
      · exact hdis x hx b hb
    · rw [e]
      intro hc
      simp at hc
      rcases List.mem_append.1 hx with hx | hx
      · have := (h.lt b (.inr ⟨x, hx, hb⟩)).2; omega
      · have := (k.lt b (.inr ⟨x, hx, hb⟩)).2; omega


theorem AllR.recIn {w : World} {Z : Nat} {av : Value} {L : List RecC} {rs : List Rec} (h : AllR w Z av L rs) : ∃ a cap, av = .slice a rs.length cap ∧ RecIn w a rs := by
  have hl := h.len
  rcases owns_row h.row with ⟨rfl, h0, _⟩ | ⟨g, cap, rfl, h1, h2, h3⟩
  · have hr : rs = [] := List.eq_nil_of_length_eq_zero (by omega)
    subst hr
    exact ⟨none, 0, rfl, by intro i r hr; simp at hr⟩
  · refine ⟨some ⟨g, 0, none⟩, cap, by rw [hl], ?_⟩
    intro i r hr
    have hi : i < L.length := by have := (List.getElem?_eq_some_iff.1 hr).1; omega
    have hx : L[i]? = some L[i] := List.getElem?_eq_getElem hi
    obtain ⟨e1, e2, e3⟩ := h.rec_ i _ r hx hr
    have hc : ∀ (j : Nat) v, j < 5 → (L[i].cells)[j]? = some v → w.cell? ⟨g, 0 + i * 5 + j, none⟩ = some v := by
      intro j v hj hv
      have := h3 (i * 5 + j) v (by rw [recCells_get L i j hj, hx]; exact hv)
      rw [Nat.add_assoc]; exact this
    refine ⟨g, 0, L[i].sa, L[i].sc, rfl, ?_, ?_, ?_, ?_, ?_, ?_⟩
    · have := hc 0 _ (by omega) rfl; rw [← e1]; exact this
    · have := hc 1 _ (by omega) rfl; rw [← e1]; exact this
    · have := hc 2 _ (by omega) rfl; rw [← e1]; exact this
    · have := hc 3 _ (by omega) rfl; rw [← e1]; exact this
    · have := hc 4 _ (by omega) rfl; rw [← e2]; exact this
    · intro k t ht
      rcases owns_row e3 with ⟨_, h0, _⟩ | ⟨g', cap', q1, _, _, q3⟩
      · have := (List.getElem?_eq_some_iff.1 ht).1; omega
      · simp only [Value.slice.injEq] at q1
        exact ⟨g', 0, q1.1, q3 k (.int .i64 t) (by simp [ints, ht])⟩
/-- No two of them share memory. -/
def ApartR (L : List RecC) : Prop := ∀ (j k : Nat) x y b, L[j]? = some x → L[k]? = some y → some b = (Value.slice x.sa x.n x.sc).ownBlock → some b = (Value.slice y.sa y.n y.sc).ownBlock → j = k

/-- One more record. -/
theorem AllR.snoc {w w' : World} {Z : Nat} {av av' : Value} {A : List RecC} {ra : List Rec} {x : RecC} {r : Rec} (h : AllR w Z av A ra) (he : x.e = r.e) (hn : x.n = r.told.length) (hx : w.ownsRow Z 3 1 (.slice x.sa x.n x.sc) r.told.length (ints r.told)) (hg : w.grownBy w' av.ownBlock) (hown : w'.ownsRow Z 46 5 av' (A.length + 1) (recCells A ++ x.cells)) (hwh : av'.ownBlock = av.ownBlock ∨ av'.ownBlock = some w.heap.size) (hdis : ∀ b, some b = (Value.slice x.sa x.n x.sc).ownBlock → some b ≠ av.ownBlock) : AllR w' Z av' (A ++ [x]) (ra ++ [r]) := by
  have ho : Only (fun b => some b = av.ownBlock) w w' := only_of_grown hg
  have hla := h.len
  refine ⟨by simp; omega, by rw [recCells_append, List.length_append]; simpa [recCells] using hown, fun j y q hy hq => ?_, ?_⟩
  · by_cases hj : j < A.length
    · rw [List.getElem?_append_left hj] at hy
      rw [List.getElem?_append_left (by omega)] at hq
      obtain ⟨h1, h2, h3⟩ := h.rec_ j y q hy hq
      exact ⟨h1, h2, owns_keep h3 ho (fun b hb hc => h.tsep y (List.mem_of_getElem? hy) b hb hc)⟩
    · rw [List.getElem?_append_right (by omega)] at hy
      rw [List.getElem?_append_right (by omega)] at hq
      rw [← hla] at hq
      rcases hj0 : j - A.length with _ | m
      · rw [hj0] at hy hq
        simp at hy hq
        subst hy hq
        exact ⟨he, hn, owns_keep hx ho (fun b hb hc => hdis b hb hc)⟩
      · rw [hj0] at hy
        simp at hy
  · intro y hy b hb
    rcases hwh with e | e
    · rw [e]
      rcases List.mem_append.1 hy with hy | hy
      · exact h.tsep y hy b hb
      · simp at hy; subst hy; exact hdis b hb
    · rw [e]
      intro hc
      simp at hc
      rcases List.mem_append.1 hy with hy | hy
      · have := (h.lt b (.inr ⟨y, hy, hb⟩)).2; omega
      · simp at hy; subst hy; have := (hx.lt b hb.symm).2; omega
theorem ApartR.snoc {w : World} {Z : Nat} {av : Value} {A : List RecC} {ra : List Rec} {x : RecC} (h : ApartR A) (hA : AllR w Z av A ra) (hx : ∀ b, some b = (Value.slice x.sa x.n x.sc).ownBlock → w.heap.size ≤ b) : ApartR (A ++ [x]) := by
  intro j k y z b hy hz hby hbz
  have hlt : ∀ (j : Nat) y, A[j]? = some y → some b = (Value.slice y.sa y.n y.sc).ownBlock → b < w.heap.size := fun j y hy hb => (hA.lt b (.inr ⟨y, List.mem_of_getElem? hy, hb⟩)).2
  have hlast : ∀ (j : Nat) y, ¬ j < A.length → (A ++ [x])[j]? = some y → j = A.length ∧ y = x := by
    intro j y hj hy
    rw [List.getElem?_append_right (by omega)] at hy
    rcases hj0 : j - A.length with _ | m
    · rw [hj0] at hy; simp at hy; exact ⟨by omega, hy.symm⟩
    · rw [hj0] at hy; simp at hy
  by_cases hj : j < A.length
  · rw [List.getElem?_append_left hj] at hy
    by_cases hk : k < A.length
    · rw [List.getElem?_append_left hk] at hz
      exact h j k y z b hy hz hby hbz
    · obtain ⟨_, rfl⟩ := hlast k z hk hz
      have := hlt j y hy hby
      have := hx b hbz
      omega
  · obtain ⟨e1, rfl⟩ := hlast j y hj hy
    by_cases hk : k < A.length
    · rw [List.getElem?_append_left hk] at hz
      have := hlt k z hz hbz
      have := hx b hby
      omega
    · obtain ⟨e2, _⟩ := hlast k z hk hz
      omega
end Go.Proofs.YtndlmgocldckfaaGreat

namespace Go.Proofs.YtndlmgocldckfaaGreat
open Go.RowKit
set_option linter.unusedVariables false
set_option linter.unusedSimpArgs false

/-! The book of the lists that came out: what lies in it. -/

/-- Some cells, again and again. -/
def reps (n : Nat) (x : List Value) : List Value := (List.replicate n x).flatten
theorem reps_length (n : Nat) (x : List Value) : (reps n x).length = n * x.length := by
  induction n with
  | zero => simp [reps]
  | succ n ih => simp [reps, List.replicate_succ] at ih ⊢; rw [Nat.add_mul]; omega
theorem reps_add (n m : Nat) (x : List Value) : reps (n + m) x = reps n x ++ reps m x := by
  simp [reps, ← List.replicate_append_replicate]
theorem reps_succ (n : Nat) (x : List Value) : reps (n + 1) x = x ++ reps n x := by simp [reps, List.replicate_succ]
theorem reps_get : ∀ (n i r : Nat) (x : List Value), r < x.length → i < n → (reps n x)[i * x.length + r]? = x[r]?
  | 0, i, r, x, _, h => by omega
  | n + 1, 0, r, x, h, _ => by rw [reps_succ, Nat.zero_mul, Nat.zero_add, List.getElem?_append_left h]
  | n + 1, i + 1, r, x, h, hi => by
    rw [reps_succ, List.getElem?_append_right (by rw [Nat.add_mul]; omega), show (i + 1) * x.length + r - x.length = i * x.length + r by rw [Nat.add_mul]; omega]
    exact reps_get n i r x h (by omega)
theorem reps_one {n : Nat} {x : List Value} (h : ∀ u ∈ x, u.oneCell' = true) : ∀ u ∈ reps n x, u.oneCell' = true := by
  intro u hu
  simp only [reps, List.mem_flatten, List.mem_replicate] at hu
  obtain ⟨l, ⟨_, rfl⟩, hu⟩ := hu
  exact h u hu

/-- A list that reads as given. -/
def Fill (w : World) (v : Value) (n : Nat) (xs : List Value) : Prop := ∃ a c, v = .slice a n c ∧ (n ≠ 0 → ∃ b, a = some ⟨b, 0, none⟩ ∧ RowAt w b 0 xs)
theorem Fill.of_owns {w : World} {base : Nat} {e : TypeId} {k : Nat} {v : Value} {n : Nat} {xs : List Value} (h : w.ownsRow base e k v n xs) : Fill w v n xs := by
  rcases owns_row h with ⟨rfl, rfl, rfl⟩ | ⟨g, cap, rfl, _, _, hr⟩
  · exact ⟨none, 0, rfl, by simp⟩
  · exact ⟨_, _, rfl, fun _ => ⟨g, rfl, hr⟩⟩
theorem Fill.only {w w' : World} {v : Value} {n : Nat} {xs : List Value} {S : Nat → Prop} (h : Fill w v n xs) (ho : Only S w w') (hS : ∀ b, some b = v.ownBlock → ¬ S b) : Fill w' v n xs := by
  obtain ⟨a, c, rfl, hx⟩ := h
  refine ⟨a, c, rfl, fun hn => ?_⟩
  obtain ⟨b, rfl, hr⟩ := hx hn
  exact ⟨b, rfl, hr.only ho (hS b rfl)⟩

/-- Append to a list, of which the caller keeps the old one too. -/
theorem run_append_keeps {P : Program} {w : World} (base : Nat) (t ty e : TypeId) (i : TypeInfo) (z : Value) (ht : P.underlying t = some (.slice e)) (hi : P.info? e = some i) (hz : i.zero = some z)
    (v : Value) (n : Nat) (xs : List Value) (hown : w.ownsRow base e i.size v n xs)
    (a : Addr) (m c : Nat) (hm : 0 < m) (news : List Value) (hl : news.length = m * i.size) (hnews : ∀ j u, news[j]? = some u → w.cell? (a.add j) = some u) (h1 : ∀ u ∈ news, u.oneCell' = true)
    (h63 : n + m ≤ 9223372036854775807) (hbytes : (n + m) * i.bytes ≤ 140737488355328) (v' : Value) (w' : World)
    (hr : (Builtin.append_ #[t, t] ty #[v, .slice (some a) m c]).run P w = .ok v' w') : w'.ownsRow base e i.size v n xs ∧ ((v'.ownBlock = v.ownBlock ∧ v.ownBlock ≠ none) ∨ (Below w.heap.size w w' ∧ v'.ownBlock = some w.heap.size)) := by
  have hcells := fun g => hown.cells (g := g)
  have hO := hown
  obtain ⟨hx, ⟨rfl, rfl⟩ | ⟨g, cap, cur, rfl, hbg, hg, hnc, hcm, hcs, htake⟩⟩ := hown
  · have h0 := run_append_nil (P := P) w t ty e i z ht hi hz a m c news hl hnews (by omega) (by omega) (by have hb := hbytes; simp only [Nat.zero_add] at hb; omega)
    rw [h0] at hr
    cases hr
    exact ⟨⟨hx, .inl ⟨rfl, rfl⟩⟩, .inr ⟨⟨rfl, rfl, rfl, by simp, fun k hk => heap_alloc_old w.drew _ hk⟩, rfl⟩⟩
  · by_cases hroom : n + m ≤ cap
    · have hfit : n * i.size + news.length ≤ cur.size := by rw [hl, hcs, ← Nat.add_mul]; exact Nat.mul_le_mul_right _ hroom
      have h0 := run_append_room (P := P) w t ty e i ht hi g n cap cur hg a m c news hl hnews h1 hroom hfit
      rw [h0] at hr
      cases hr
      refine ⟨⟨hx, .inr ⟨g, cap, _, rfl, hbg, setRow_heap w g cur _ e _ hg, hnc, hcm, ?_, ?_⟩⟩, .inl ⟨rfl, by simp [Value.ownBlock]⟩⟩
      · simp only [List.size_toArray, List.length_append, List.length_take, List.length_drop, Array.length_toList]
        omega
      · rw [List.append_assoc, List.take_append_of_le_length (by simp; omega), List.take_take, Nat.min_self]
        exact htake
    · have h0 := run_append_grow (P := P) w t ty e i z ht hi hz ⟨g, 0, none⟩ n cap xs hx (hcells g rfl) a m c news hl hnews (by omega) (by omega) (growslice_fits (by omega) hbytes)
      rw [h0] at hr
      cases hr
      have hb : Below w.heap.size w (w.drew.alloc (.cells (xs.toArray ++ news.toArray ++ Builtin.zeroCells z.cells (grownCap w (n + m) cap e - (n + m))) e)) := ⟨rfl, rfl, rfl, by simp, fun k hk => heap_alloc_old w.drew _ hk⟩
      exact ⟨owns_keep hO (Only.new (S := fun _ => False) hb) (by simp), .inr ⟨hb, rfl⟩⟩

theorem wpList_append_keep {P : Program} {w : World} {ops : Array Oper} {rest : List Oper} {o : Oper} {a : Act} {Q : Exit → Act → World → Prop} (hgd : o.guard = none) (s x : Operand) (t : TypeId)
    (ho : o.op = .call { callee := .builtin .append, args := #[s, x], argTypes := #[t, t] })
    (base : Nat) (e : TypeId) (z : Value) (size bytes : Nat) (ht : P.underlying t = some (.slice e)) (hinfo : (P.info? e).map (fun i => (i.zero, i.size, i.bytes)) = some (some z, size, bytes))
    (hzs : z.cells.size = size) (hsz : 0 < size)
    (v : Value) (n : Nat) (xs : List Value) (hs : a.eval s = v) (hown : w.ownsRow base e size v n xs)
    (b m c : Nat) (hm : 0 < m) (news : List Value) (hx : a.eval x = .slice (some ⟨b, 0, none⟩) m c) (hsrc : RowAt w b 0 news) (hl : news.length = m * size) (h1 : ∀ u ∈ news, u.oneCell' = true)
    (hbytes : (n + m) * bytes ≤ 140737488355328) (h63 : n + m ≤ 9223372036854775807) (hbase : base ≤ w.heap.size)
    (h : ∀ v' w', Hid (w'.ownsRow base e size v' (n + m) (xs ++ news)) → Hid (w.grownBy w' v.ownBlock) → Hid (w'.ownsRow base e size v n xs ∧ ((v'.ownBlock = v.ownBlock ∧ v.ownBlock ≠ none) ∨ (Below w.heap.size w w' ∧ v'.ownBlock = some w.heap.size))) → wpList P ops Q rest (a.put o.dst v') w') : wpList P ops Q (o :: rest) a w := by
  obtain ⟨i, hi, hz, hsz', hby⟩ := info_parts hinfo
  have hnews : ∀ j u, news[j]? = some u → w.cell? (Addr.add ⟨b, 0, none⟩ j) = some u := fun j u hu => by rw [Addr.add_lit]; exact hsrc j u hu
  subst hsz'
  subst hby
  obtain ⟨v', w', hr, h2, h3, h4⟩ := run_append_own (P := P) w base t o.type e i z i.size i.bytes ht hi hz rfl rfl hzs hsz v n xs hown ⟨b, 0, none⟩ m c news hl hnews h1 (by simp only [maxLen]; omega) hbytes hbase
  have h5 := run_append_keeps base t o.type e i z ht hi hz v n xs hown ⟨b, 0, none⟩ m c hm news hl hnews h1 h63 hbytes v' w' hr
  refine wpList_plain hgd fun K hK => ?_
  unfold Oper.wp
  simp [execOp, ho, resolve, invoke, builtin, hs, hx, hr, Result.andThen]
  exact hK _ _ (h v' w' h2 h3 h5)

/-- The second and third list out of one: the ones before keep what they read. -/
theorem Fill.beside {w w' : World} {base : Nat} {e : TypeId} {k : Nat} {l v v1 : Value} {n m d : Nat} {x : List Value} (hk : x.length = k) (h1 : Fill w v1 (n + m) (reps (n + m) x)) (hmd : m ≤ d)
    (hown : w'.ownsRow base e k v (n + d) (reps (n + d) x)) (hg : w.grownBy w' l.ownBlock) (hor : (v.ownBlock = l.ownBlock ∧ l.ownBlock ≠ none) ∨ (Below w.heap.size w w' ∧ v.ownBlock = some w.heap.size)) : Fill w' v1 (n + m) (reps (n + m) x) := by
  rcases hor with ⟨he, _⟩ | ⟨hb, _⟩
  · obtain ⟨a, c, rfl, hx⟩ := h1
    refine ⟨a, c, rfl, fun hn => ?_⟩
    obtain ⟨b, rfl, hr⟩ := hx hn
    refine ⟨b, rfl, ?_⟩
    by_cases hbl : some b = l.ownBlock
    · obtain ⟨a2, c2, rfl, hx2⟩ := Fill.of_owns hown
      obtain ⟨b2, rfl, hr2⟩ := hx2 (by omega)
      have e2 : b2 = b := by
        have : some b2 = some b := he.trans hbl.symm
        exact Option.some.inj this
      subst e2
      intro j u hu
      refine hr2 j u ?_
      rw [show n + d = (n + m) + (d - m) by omega, reps_add, List.getElem?_append_left (List.getElem?_eq_some_iff.1 hu).1]
      exact hu
    · exact hr.only (only_of_grown hg) hbl
  · exact h1.only (Only.new (S := fun _ => False) hb) (by simp)

/-- A cell of one's own list is set. -/
theorem owns_set {w : World} {base : Nat} {e : TypeId} {k : Nat} {g n cap : Nat} {xs : List Value} (h : w.ownsRow base e k (.slice (some ⟨g, 0, none⟩) n cap) n xs) (j : Nat) (u : Value) : ∃ ys, (w.setCell ⟨g, j, none⟩ u).ownsRow base e k (.slice (some ⟨g, 0, none⟩) n cap) n ys := by
  obtain ⟨hx, ⟨hc, _⟩ | ⟨g', cap', cur, hv, hbg, hg, hnc, hcm, hcs, htake⟩⟩ := h
  · simp at hc
  · simp only [Value.slice.injEq, Option.some.injEq, Addr.mk.injEq, and_true, true_and] at hv
    obtain ⟨rfl, rfl⟩ := hv
    have hgl := (Array.getElem?_eq_some_iff.1 hg).1
    have hnk : n * k ≤ cap * k := Nat.mul_le_mul_right _ hnc
    refine ⟨(cur.setIfInBounds j u).toList.take (n * k), ?_, .inr ⟨g, cap, cur.setIfInBounds j u, rfl, hbg, ?_, hnc, hcm, by simpa using hcs, rfl⟩⟩
    · simp; omega
    · exact heap_setCell_same w g j cur e u hg

/-- What is owned and reads so, is owned so. -/
theorem owns_reads {w : World} {base : Nat} {e : TypeId} {k : Nat} {g n cap : Nat} {xs ys : List Value} (h : w.ownsRow base e k (.slice (some ⟨g, 0, none⟩) n cap) n xs) (hy : RowAt w g 0 ys) (hl : ys.length = n * k) : w.ownsRow base e k (.slice (some ⟨g, 0, none⟩) n cap) n ys := by
  have hx := h.1
  have he : xs = ys := by
    refine List.ext_getElem? fun j => ?_
    by_cases hj : j < n * k
    · have a1 := h.cells (g := g) rfl j xs[j] (List.getElem?_eq_getElem (by omega))
      have a2 := hy j ys[j] (List.getElem?_eq_getElem (by omega))
      rw [Addr.add_lit] at a1
      rw [a1] at a2
      rw [List.getElem?_eq_getElem (by omega), List.getElem?_eq_getElem (by omega)]
      exact a2
    · rw [List.getElem?_eq_none (by omega), List.getElem?_eq_none (by omega)]
  rw [← he]; exact h

/-- A list that may be written into. -/
def Free (w : World) (v : Value) : Prop := ∀ b, some b = v.ownBlock → b < w.heap.size ∧ ∀ j u, w.cell? ⟨b, j, none⟩ = some u → w.frozen? ⟨b, j, none⟩ = false
theorem Free.only {w w' : World} {v : Value} {S : Nat → Prop} (h : Free w v) (ho : Only S w w') (hS : ∀ b, some b = v.ownBlock → ¬ S b) : Free w' v := by
  intro b hb
  obtain ⟨h1, h2⟩ := h b hb
  have hz := ho.size
  refine ⟨by omega, fun j u hu => ?_⟩
  have hB := ho.block b h1 (hS b hb)
  rw [World.frozen?_of_block (w := w) (a := ⟨b, j, none⟩) hB]
  rw [World.cell?_of_block (w := w) (a := ⟨b, j, none⟩) hB] at hu
  exact h2 j u hu

/-! The book. -/
def markB (i : Nat) : List Value := [.int .u8 (200 + ((i / 4 % 50 : Nat) : Int))]
def markI (i : Nat) : List Value := [.int .i64 (-1000 - ((i / 4 : Nat) : Int))]
def markR (i : Nat) : List Value := [.int .i64 (-1000 - ((i / 4 : Nat) : Int)), .int .i64 0, .int .i64 0, .int .i64 0, .slice none 0 0]

structure BkD where
  bv : Value
  iv : Value
  rv : Value
  bl : List Value
  il : List Value
  rl : List Value

/-- Blocks of the lists. -/
def BkD.ents (k : BkD) (b : Nat) : Prop := ∃ v, (v ∈ k.bl ∨ v ∈ k.il ∨ v ∈ k.rl) ∧ some b = v.ownBlock
def BkD.rows (k : BkD) (b : Nat) : Prop := some b = k.bv.ownBlock ∨ some b = k.iv.ownBlock ∨ some b = k.rv.ownBlock
def BkD.set (k : BkD) (b : Nat) : Prop := k.ents b ∨ k.rows b

structure BkOK (w : World) (k : BkD) : Prop where
  bown : w.ownsRow 0 56 1 k.bv k.bl.length k.bl
  iown : w.ownsRow 0 24 1 k.iv k.il.length k.il
  rown : w.ownsRow 0 39 1 k.rv k.rl.length k.rl
  bent : ∀ (i : Nat) v, k.bl[i]? = some v → ∃ n, n ≤ 1000000000 ∧ Fill w v n (reps n (markB i))
  ient : ∀ (i : Nat) v, k.il[i]? = some v → ∃ n, n ≤ 1000000000 ∧ Fill w v n (reps n (markI i))
  rent : ∀ (i : Nat) v, k.rl[i]? = some v → ∃ n, n ≤ 1000000000 ∧ Fill w v n (reps n (markR i))
  elt : ∀ b, k.ents b → b < w.heap.size
  sep : ∀ b, k.ents b → ¬ k.rows b
  bi : ∀ b, some b = k.bv.ownBlock → some b ≠ k.iv.ownBlock
  br : ∀ b, some b = k.bv.ownBlock → some b ≠ k.rv.ownBlock
  ir : ∀ b, some b = k.iv.ownBlock → some b ≠ k.rv.ownBlock
  free : ∀ v ∈ k.bl, Free w v
  bsep : ∀ (i j : Nat) v u b, k.bl[i]? = some v → k.bl[j]? = some u → some b = v.ownBlock → some b = u.ownBlock → i / 4 = j / 4

theorem BkOK.lt {w : World} {k : BkD} (h : BkOK w k) : ∀ b, k.set b → b < w.heap.size := by
  rintro b (hb | hb | hb | hb)
  · exact h.elt b hb
  · exact (h.bown.lt b hb.symm).2
  · exact (h.iown.lt b hb.symm).2
  · exact (h.rown.lt b hb.symm).2
theorem BkOK.only {w w' : World} {k : BkD} {S : Nat → Prop} (h : BkOK w k) (ho : Only S w w') (hS : ∀ b, k.set b → ¬ S b) : BkOK w' k := by
  have hz := ho.size
  refine ⟨owns_keep h.bown ho (fun b hb => hS b (.inr (.inl hb))), owns_keep h.iown ho (fun b hb => hS b (.inr (.inr (.inl hb)))), owns_keep h.rown ho (fun b hb => hS b (.inr (.inr (.inr hb)))), ?_, ?_, ?_, fun b hb => by have := h.elt b hb; omega, h.sep, h.bi, h.br, h.ir, fun v hv => (h.free v hv).only ho (fun b hb => hS b (.inl ⟨v, .inl hv, hb⟩)), h.bsep⟩
  · intro i v hv
    obtain ⟨n, hl, hn⟩ := h.bent i v hv
    exact ⟨n, hl, hn.only ho (fun b hb => hS b (.inl ⟨v, .inl (List.mem_of_getElem? hv), hb⟩))⟩
  · intro i v hv
    obtain ⟨n, hl, hn⟩ := h.ient i v hv
    exact ⟨n, hl, hn.only ho (fun b hb => hS b (.inl ⟨v, .inr (.inl (List.mem_of_getElem? hv)), hb⟩))⟩
  · intro i v hv
    obtain ⟨n, hl, hn⟩ := h.rent i v hv
    exact ⟨n, hl, hn.only ho (fun b hb => hS b (.inl ⟨v, .inr (.inr (List.mem_of_getElem? hv)), hb⟩))⟩
end Go.Proofs.YtndlmgocldckfaaGreat

namespace Go.Proofs.YtndlmgocldckfaaGreat
open Go.RowKit
set_option linter.unusedVariables false
set_option linter.unusedSimpArgs false

/-! The book, one list more. -/

/-- One list more among the bytes. -/
theorem BkOK.pushB {w W w2 : World} {k : BkD} {wb : Nat} {v v' : Value} {n : Nat} (h : BkOK w k) (hB : Below w.heap.size w W) (hg : W.grownBy w2 k.bv.ownBlock) (hown : w2.ownsRow 0 56 1 v' (k.bl.length + 1) (k.bl ++ [v])) (hwh : v'.ownBlock = k.bv.ownBlock ∨ v'.ownBlock = some W.heap.size)
    (hn : n ≤ 1000000000) (hv : Fill w v n (reps n (markB k.bl.length))) (hfr : Free w v) (hsp : ∀ (j : Nat) u b, k.bl[j]? = some u → some b = v.ownBlock → some b = u.ownBlock → j / 4 = k.bl.length / 4) (hvs : ∀ b, some b = v.ownBlock → b < w.heap.size ∧ ¬ k.rows b ∧ b ≠ wb) (hwb : ¬ k.set wb) (hwl : wb < w.heap.size) :
    BkOK (w2.setCell ⟨wb, 1, none⟩ v') { k with bv := v', bl := k.bl ++ [v] } ∧ Only (fun b => b = wb ∨ some b = k.bv.ownBlock) w (w2.setCell ⟨wb, 1, none⟩ v') ∧ (∀ b, b < w.heap.size → ¬ k.rows b → ¬ ({ k with bv := v', bl := k.bl ++ [v] } : BkD).rows b) ∧ ¬ ({ k with bv := v', bl := k.bl ++ [v] } : BkD).set wb ∧
    (∀ b, ({ k with bv := v', bl := k.bl ++ [v] } : BkD).set b → k.set b ∨ some b = v.ownBlock ∨ w.heap.size ≤ b) := by
  have hz := hB.size
  have hz2 := hg.size
  have ho : Only (fun b => some b = k.bv.ownBlock) w w2 := (Only.new hB).trans (only_of_grown hg)
  have hs : Only (· = wb) w2 (w2.setCell ⟨wb, 1, none⟩ v') := Only.setCell (S := (· = wb)) (Only.refl _ _) rfl _
  have hoa : Only (fun b => b = wb ∨ some b = k.bv.ownBlock) w (w2.setCell ⟨wb, 1, none⟩ v') := (ho.mono (fun b _ hb => .inr hb)).trans (hs.mono (fun b _ hb => .inl hb))
  have hsz : (w2.setCell ⟨wb, 1, none⟩ v').heap.size = w2.heap.size := by simp [World.setCell]
  have hmv : ∀ b, b < w.heap.size → some b = v'.ownBlock → some b = k.bv.ownBlock := by
    intro b hb e
    rcases hwh with e' | e'
    · rw [← e']; exact e
    · rw [e'] at e; have := Option.some.inj e; omega
  have hrows : ∀ b, b < w.heap.size → ¬ k.rows b → ¬ ({ k with bv := v', bl := k.bl ++ [v] } : BkD).rows b := by
    intro b hb hnr hc
    refine hnr ?_
    rcases hc with hc | hc | hc
    · exact .inl (hmv b hb hc)
    · exact .inr (.inl hc)
    · exact .inr (.inr hc)
  have hents : ∀ b, ({ k with bv := v', bl := k.bl ++ [v] } : BkD).ents b → k.ents b ∨ some b = v.ownBlock := by
    rintro b ⟨x, hx, hb⟩
    rcases hx with hx | hx | hx
    · rcases List.mem_append.1 hx with hx | hx
      · exact .inl ⟨x, .inl hx, hb⟩
      · simp at hx; subst hx; exact .inr hb
    · exact .inl ⟨x, .inr (.inl hx), hb⟩
    · exact .inl ⟨x, .inr (.inr hx), hb⟩
  have hset : ∀ b, ({ k with bv := v', bl := k.bl ++ [v] } : BkD).set b → k.set b ∨ some b = v.ownBlock ∨ w.heap.size ≤ b := by
    rintro b (hb | hb)
    · rcases hents b hb with hb | hb
      · exact .inl (.inl hb)
      · exact .inr (.inl hb)
    · by_cases hl : b < w.heap.size
      · by_cases hr : k.rows b
        · exact .inl (.inr hr)
        · exact absurd hb (hrows b hl hr)
      · exact .inr (.inr (by omega))
  have hnw : ∀ b, k.set b → b ≠ wb := fun b hb e => hwb (e ▸ hb)
  have hvw : v'.ownBlock ≠ some wb := by
    intro e
    have := hmv wb hwl e.symm
    exact hwb (.inr (.inl this))
  have hkeep : ∀ b, k.set b → some b ≠ k.bv.ownBlock → ¬ (b = wb ∨ some b = k.bv.ownBlock) := by
    rintro b hb hne (e | e)
    · exact hnw b hb e
    · exact hne e
  have hent : ∀ b, k.ents b → some b ≠ k.bv.ownBlock := fun b hb e => h.sep b hb (.inl e)
  refine ⟨⟨?_, owns_keep h.iown hoa (fun b hb => hkeep b (.inr (.inr (.inl hb))) (fun e => h.bi b e hb)), owns_keep h.rown hoa (fun b hb => hkeep b (.inr (.inr (.inr hb))) (fun e => h.br b e hb)), ?_, ?_, ?_, ?_, ?_, ?_, ?_, ?_, ?_, ?_⟩, hoa, hrows, ?_, hset⟩
  · rw [List.length_append]; exact owns_keep hown hs (fun b hb e => hvw (by rw [← hb, e]))
  · intro i x hx
    by_cases hi : i < k.bl.length
    · rw [List.getElem?_append_left hi] at hx
      obtain ⟨n, hl, hf⟩ := h.bent i x hx
      exact ⟨n, hl, hf.only hoa (fun b hb => hkeep b (.inl ⟨x, .inl (List.mem_of_getElem? hx), hb⟩) (hent b ⟨x, .inl (List.mem_of_getElem? hx), hb⟩))⟩
    · rw [List.getElem?_append_right (by omega)] at hx
      have hi0 : i - k.bl.length = 0 := by
        have := (List.getElem?_eq_some_iff.1 hx).1
        simp at this; omega
      rw [hi0] at hx
      simp at hx
      subst hx
      have hie : i = k.bl.length := by omega
      subst hie
      refine ⟨n, hn, hv.only hoa ?_⟩
      rintro b hb (e | e)
      · exact (hvs b hb).2.2 e
      · exact (hvs b hb).2.1 (.inl e)
  · intro i x hx
    obtain ⟨n, hl, hf⟩ := h.ient i x hx
    exact ⟨n, hl, hf.only hoa (fun b hb => hkeep b (.inl ⟨x, .inr (.inl (List.mem_of_getElem? hx)), hb⟩) (hent b ⟨x, .inr (.inl (List.mem_of_getElem? hx)), hb⟩))⟩
  · intro i x hx
    obtain ⟨n, hl, hf⟩ := h.rent i x hx
    exact ⟨n, hl, hf.only hoa (fun b hb => hkeep b (.inl ⟨x, .inr (.inr (List.mem_of_getElem? hx)), hb⟩) (hent b ⟨x, .inr (.inr (List.mem_of_getElem? hx)), hb⟩))⟩
  · intro b hb
    rw [hsz]
    rcases hents b hb with hb | hb
    · have := h.elt b hb; omega
    · have := (hvs b hb).1; omega
  · intro b hb
    rcases hents b hb with hb | hb
    · exact hrows b (h.elt b hb) (h.sep b hb)
    · exact hrows b (hvs b hb).1 (hvs b hb).2.1
  · intro b hb hc
    have hl := (h.iown.lt b hc.symm).2
    exact h.bi b (hmv b hl hb) hc
  · intro b hb hc
    have hl := (h.rown.lt b hc.symm).2
    exact h.br b (hmv b hl hb) hc
  · intro b hb hc
    exact h.ir b hb hc
  · intro x hx
    rcases List.mem_append.1 hx with hx | hx
    · exact (h.free x hx).only hoa (fun b hb => hkeep b (.inl ⟨x, .inl hx, hb⟩) (hent b ⟨x, .inl hx, hb⟩))
    · simp at hx
      subst hx
      refine hfr.only hoa ?_
      rintro b hb (e | e)
      · exact (hvs b hb).2.2 e
      · exact (hvs b hb).2.1 (.inl e)
  · have hlast : ∀ (i : Nat) x, (k.bl ++ [v])[i]? = some x → (i < k.bl.length ∧ k.bl[i]? = some x) ∨ (i = k.bl.length ∧ x = v) := by
      intro i x hx
      by_cases hi : i < k.bl.length
      · rw [List.getElem?_append_left hi] at hx; exact .inl ⟨hi, hx⟩
      · rw [List.getElem?_append_right (by omega)] at hx
        have hi0 : i - k.bl.length = 0 := by
          have := (List.getElem?_eq_some_iff.1 hx).1
          simp at this; omega
        rw [hi0] at hx
        simp at hx
        exact .inr ⟨by omega, hx.symm⟩
    intro i j x y b hx hy hb1 hb2
    rcases hlast i x hx with ⟨_, hx1⟩ | ⟨hx1, rfl⟩ <;> rcases hlast j y hy with ⟨_, hy1⟩ | ⟨hy1, rfl⟩
    · exact h.bsep i j x y b hx1 hy1 hb1 hb2
    · rw [hy1]; exact hsp i x b hx1 hb2 hb1
    · rw [hx1]; exact (hsp j y b hy1 hb1 hb2).symm
    · rw [hx1, hy1]
  · intro hc
    rcases hset wb hc with hc | hc | hc
    · exact hwb hc
    · exact (hvs wb hc).2.2 rfl
    · omega

/-- One list more among the numbers. -/
theorem BkOK.pushI {w W w2 : World} {k : BkD} {wb : Nat} {v v' : Value} {n : Nat} (h : BkOK w k) (hB : Below w.heap.size w W) (hg : W.grownBy w2 k.iv.ownBlock) (hown : w2.ownsRow 0 24 1 v' (k.il.length + 1) (k.il ++ [v])) (hwh : v'.ownBlock = k.iv.ownBlock ∨ v'.ownBlock = some W.heap.size)
    (hn : n ≤ 1000000000) (hv : Fill w v n (reps n (markI k.il.length))) (hvs : ∀ b, some b = v.ownBlock → b < w.heap.size ∧ ¬ k.rows b ∧ b ≠ wb) (hwb : ¬ k.set wb) (hwl : wb < w.heap.size) :
    BkOK (w2.setCell ⟨wb, 2, none⟩ v') { k with iv := v', il := k.il ++ [v] } ∧ Only (fun b => b = wb ∨ some b = k.iv.ownBlock) w (w2.setCell ⟨wb, 2, none⟩ v') ∧ (∀ b, b < w.heap.size → ¬ k.rows b → ¬ ({ k with iv := v', il := k.il ++ [v] } : BkD).rows b) ∧ ¬ ({ k with iv := v', il := k.il ++ [v] } : BkD).set wb ∧
    (∀ b, ({ k with iv := v', il := k.il ++ [v] } : BkD).set b → k.set b ∨ some b = v.ownBlock ∨ w.heap.size ≤ b) := by
  have hz := hB.size
  have hz2 := hg.size
  have ho : Only (fun b => some b = k.iv.ownBlock) w w2 := (Only.new hB).trans (only_of_grown hg)
  have hs : Only (· = wb) w2 (w2.setCell ⟨wb, 2, none⟩ v') := Only.setCell (S := (· = wb)) (Only.refl _ _) rfl _
  have hoa : Only (fun b => b = wb ∨ some b = k.iv.ownBlock) w (w2.setCell ⟨wb, 2, none⟩ v') := (ho.mono (fun b _ hb => .inr hb)).trans (hs.mono (fun b _ hb => .inl hb))
  have hsz : (w2.setCell ⟨wb, 2, none⟩ v').heap.size = w2.heap.size := by simp [World.setCell]
  have hmv : ∀ b, b < w.heap.size → some b = v'.ownBlock → some b = k.iv.ownBlock := by
    intro b hb e
    rcases hwh with e' | e'
    · rw [← e']; exact e
    · rw [e'] at e; have := Option.some.inj e; omega
  have hrows : ∀ b, b < w.heap.size → ¬ k.rows b → ¬ ({ k with iv := v', il := k.il ++ [v] } : BkD).rows b := by
    intro b hb hnr hc
    refine hnr ?_
    rcases hc with hc | hc | hc
    · exact .inl hc
    · exact .inr (.inl (hmv b hb hc))
    · exact .inr (.inr hc)
  have hents : ∀ b, ({ k with iv := v', il := k.il ++ [v] } : BkD).ents b → k.ents b ∨ some b = v.ownBlock := by
    rintro b ⟨x, hx, hb⟩
    rcases hx with hx | hx | hx
    · exact .inl ⟨x, .inl hx, hb⟩
    · rcases List.mem_append.1 hx with hx | hx
      · exact .inl ⟨x, .inr (.inl hx), hb⟩
      · simp at hx; subst hx; exact .inr hb
    · exact .inl ⟨x, .inr (.inr hx), hb⟩
  have hset : ∀ b, ({ k with iv := v', il := k.il ++ [v] } : BkD).set b → k.set b ∨ some b = v.ownBlock ∨ w.heap.size ≤ b := by
    rintro b (hb | hb)
    · rcases hents b hb with hb | hb
      · exact .inl (.inl hb)
      · exact .inr (.inl hb)
    · by_cases hl : b < w.heap.size
      · by_cases hr : k.rows b
        · exact .inl (.inr hr)
        · exact absurd hb (hrows b hl hr)
      · exact .inr (.inr (by omega))
  have hnw : ∀ b, k.set b → b ≠ wb := fun b hb e => hwb (e ▸ hb)
  have hvw : v'.ownBlock ≠ some wb := by
    intro e
    have := hmv wb hwl e.symm
    exact hwb (.inr (.inr <| .inl this))
  have hkeep : ∀ b, k.set b → some b ≠ k.iv.ownBlock → ¬ (b = wb ∨ some b = k.iv.ownBlock) := by
    rintro b hb hne (e | e)
    · exact hnw b hb e
    · exact hne e
  have hent : ∀ b, k.ents b → some b ≠ k.iv.ownBlock := fun b hb e => h.sep b hb (.inr <| .inl e)
  refine ⟨⟨owns_keep h.bown hoa (fun b hb => hkeep b (.inr (.inl hb)) (h.bi b hb)), ?_, owns_keep h.rown hoa (fun b hb => hkeep b (.inr (.inr (.inr hb))) (fun e => h.ir b e hb)), ?_, ?_, ?_, ?_, ?_, ?_, ?_, ?_, fun v hv => (h.free v hv).only hoa (fun b hb => hkeep b (.inl ⟨v, .inl hv, hb⟩) (hent b ⟨v, .inl hv, hb⟩)), h.bsep⟩, hoa, hrows, ?_, hset⟩
  · rw [List.length_append]; exact owns_keep hown hs (fun b hb e => hvw (by rw [← hb, e]))
  · intro i x hx
    obtain ⟨n, hl, hf⟩ := h.bent i x hx
    exact ⟨n, hl, hf.only hoa (fun b hb => hkeep b (.inl ⟨x, .inl (List.mem_of_getElem? hx), hb⟩) (hent b ⟨x, .inl (List.mem_of_getElem? hx), hb⟩))⟩
  · intro i x hx
    by_cases hi : i < k.il.length
    · rw [List.getElem?_append_left hi] at hx
      obtain ⟨n, hl, hf⟩ := h.ient i x hx
      exact ⟨n, hl, hf.only hoa (fun b hb => hkeep b (.inl ⟨x, .inr (.inl (List.mem_of_getElem? hx)), hb⟩) (hent b ⟨x, .inr (.inl (List.mem_of_getElem? hx)), hb⟩))⟩
    · rw [List.getElem?_append_right (by omega)] at hx
      have hi0 : i - k.il.length = 0 := by
        have := (List.getElem?_eq_some_iff.1 hx).1
        simp at this; omega
      rw [hi0] at hx
      simp at hx
      subst hx
      have hie : i = k.il.length := by omega
      subst hie
      refine ⟨n, hn, hv.only hoa ?_⟩
      rintro b hb (e | e)
      · exact (hvs b hb).2.2 e
      · exact (hvs b hb).2.1 (.inr <| .inl e)
  · intro i x hx
    obtain ⟨n, hl, hf⟩ := h.rent i x hx
    exact ⟨n, hl, hf.only hoa (fun b hb => hkeep b (.inl ⟨x, .inr (.inr (List.mem_of_getElem? hx)), hb⟩) (hent b ⟨x, .inr (.inr (List.mem_of_getElem? hx)), hb⟩))⟩
  · intro b hb
    rw [hsz]
    rcases hents b hb with hb | hb
    · have := h.elt b hb; omega
    · have := (hvs b hb).1; omega
  · intro b hb
    rcases hents b hb with hb | hb
    · exact hrows b (h.elt b hb) (h.sep b hb)
    · exact hrows b (hvs b hb).1 (hvs b hb).2.1
  · intro b hb hc
    have hl := (h.bown.lt b hb.symm).2
    exact h.bi b hb (hmv b hl hc)
  · intro b hb hc
    exact h.br b hb hc
  · intro b hb hc
    have hl := (h.rown.lt b hc.symm).2
    exact h.ir b (hmv b hl hb) hc
  · intro hc
    rcases hset wb hc with hc | hc | hc
    · exact hwb hc
    · exact (hvs wb hc).2.2 rfl
    · omega

/-- One list more among the records. -/
theorem BkOK.pushR {w W w2 : World} {k : BkD} {wb : Nat} {v v' : Value} {n : Nat} (h : BkOK w k) (hB : Below w.heap.size w W) (hg : W.grownBy w2 k.rv.ownBlock) (hown : w2.ownsRow 0 39 1 v' (k.rl.length + 1) (k.rl ++ [v])) (hwh : v'.ownBlock = k.rv.ownBlock ∨ v'.ownBlock = some W.heap.size)
    (hn : n ≤ 1000000000) (hv : Fill w v n (reps n (markR k.rl.length))) (hvs : ∀ b, some b = v.ownBlock → b < w.heap.size ∧ ¬ k.rows b ∧ b ≠ wb) (hwb : ¬ k.set wb) (hwl : wb < w.heap.size) :
    BkOK (w2.setCell ⟨wb, 3, none⟩ v') { k with rv := v', rl := k.rl ++ [v] } ∧ Only (fun b => b = wb ∨ some b = k.rv.ownBlock) w (w2.setCell ⟨wb, 3, none⟩ v') ∧ (∀ b, b < w.heap.size → ¬ k.rows b → ¬ ({ k with rv := v', rl := k.rl ++ [v] } : BkD).rows b) ∧ ¬ ({ k with rv := v', rl := k.rl ++ [v] } : BkD).set wb ∧
    (∀ b, ({ k with rv := v', rl := k.rl ++ [v] } : BkD).set b → k.set b ∨ some b = v.ownBlock ∨ w.heap.size ≤ b) := by
  have hz := hB.size
  have hz2 := hg.size
  have ho : Only (fun b => some b = k.rv.ownBlock) w w2 := (Only.new hB).trans (only_of_grown hg)
  have hs : Only (· = wb) w2 (w2.setCell ⟨wb, 3, none⟩ v') := Only.setCell (S := (· = wb)) (Only.refl _ _) rfl _
  have hoa : Only (fun b => b = wb ∨ some b = k.rv.ownBlock) w (w2.setCell ⟨wb, 3, none⟩ v') := (ho.mono (fun b _ hb => .inr hb)).trans (hs.mono (fun b _ hb => .inl hb))
  have hsz : (w2.setCell ⟨wb, 3, none⟩ v').heap.size = w2.heap.size := by simp [World.setCell]
  have hmv : ∀ b, b < w.heap.size → some b = v'.ownBlock → some b = k.rv.ownBlock := by
    intro b hb e
    rcases hwh with e' | e'
    · rw [← e']; exact e
    · rw [e'] at e; have := Option.some.inj e; omega
  have hrows : ∀ b, b < w.heap.size → ¬ k.rows b → ¬ ({ k with rv := v', rl := k.rl ++ [v] } : BkD).rows b := by
    intro b hb hnr hc
    refine hnr ?_
    rcases hc with hc | hc | hc
    · exact .inl hc
    · exact .inr (.inl hc)
    · exact .inr (.inr (hmv b hb hc))
  have hents : ∀ b, ({ k with rv := v', rl := k.rl ++ [v] } : BkD).ents b → k.ents b ∨ some b = v.ownBlock := by
    rintro b ⟨x, hx, hb⟩
    rcases hx with hx | hx | hx
    · exact .inl ⟨x, .inl hx, hb⟩
    · exact .inl ⟨x, .inr (.inl hx), hb⟩
    · rcases List.mem_append.1 hx with hx | hx
      · exact .inl ⟨x, .inr (.inr hx), hb⟩
      · simp at hx; subst hx; exact .inr hb
  have hset : ∀ b, ({ k with rv := v', rl := k.rl ++ [v] } : BkD).set b → k.set b ∨ some b = v.ownBlock ∨ w.heap.size ≤ b := by
    rintro b (hb | hb)
    · rcases hents b hb with hb | hb
      · exact .inl (.inl hb)
      · exact .inr (.inl hb)
    · by_cases hl : b < w.heap.size
      · by_cases hr : k.rows b
        · exact .inl (.inr hr)
        · exact absurd hb (hrows b hl hr)
      · exact .inr (.inr (by omega))
  have hnw : ∀ b, k.set b → b ≠ wb := fun b hb e => hwb (e ▸ hb)
  have hvw : v'.ownBlock ≠ some wb := by
    intro e
    have := hmv wb hwl e.symm
    exact hwb (.inr (.inr <| .inr this))
  have hkeep : ∀ b, k.set b → some b ≠ k.rv.ownBlock → ¬ (b = wb ∨ some b = k.rv.ownBlock) := by
    rintro b hb hne (e | e)
    · exact hnw b hb e
    · exact hne e
  have hent : ∀ b, k.ents b → some b ≠ k.rv.ownBlock := fun b hb e => h.sep b hb (.inr <| .inr e)
  refine ⟨⟨owns_keep h.bown hoa (fun b hb => hkeep b (.inr (.inl hb)) (h.br b hb)), owns_keep h.iown hoa (fun b hb => hkeep b (.inr (.inr (.inl hb))) (h.ir b hb)), ?_, ?_, ?_, ?_, ?_, ?_, ?_, ?_, ?_, fun v hv => (h.free v hv).only hoa (fun b hb => hkeep b (.inl ⟨v, .inl hv, hb⟩) (hent b ⟨v, .inl hv, hb⟩)), h.bsep⟩, hoa, hrows, ?_, hset⟩
  · rw [List.length_append]; exact owns_keep hown hs (fun b hb e => hvw (by rw [← hb, e]))
  · intro i x hx
    obtain ⟨n, hl, hf⟩ := h.bent i x hx
    exact ⟨n, hl, hf.only hoa (fun b hb => hkeep b (.inl ⟨x, .inl (List.mem_of_getElem? hx), hb⟩) (hent b ⟨x, .inl (List.mem_of_getElem? hx), hb⟩))⟩
  · intro i x hx
    obtain ⟨n, hl, hf⟩ := h.ient i x hx
    exact ⟨n, hl, hf.only hoa (fun b hb => hkeep b (.inl ⟨x, .inr (.inl (List.mem_of_getElem? hx)), hb⟩) (hent b ⟨x, .inr (.inl (List.mem_of_getElem? hx)), hb⟩))⟩
  · intro i x hx
    by_cases hi : i < k.rl.length
    · rw [List.getElem?_append_left hi] at hx
      obtain ⟨n, hl, hf⟩ := h.rent i x hx
      exact ⟨n, hl, hf.only hoa (fun b hb => hkeep b (.inl ⟨x, .inr (.inr (List.mem_of_getElem? hx)), hb⟩) (hent b ⟨x, .inr (.inr (List.mem_of_getElem? hx)), hb⟩))⟩
    · rw [List.getElem?_append_right (by omega)] at hx
      have hi0 : i - k.rl.length = 0 := by
        have := (List.getElem?_eq_some_iff.1 hx).1
        simp at this; omega
      rw [hi0] at hx
      simp at hx
      subst hx
      have hie : i = k.rl.length := by omega
      subst hie
      refine ⟨n, hn, hv.only hoa ?_⟩
      rintro b hb (e | e)
      · exact (hvs b hb).2.2 e
      · exact (hvs b hb).2.1 (.inr <| .inr e)
  · intro b hb
    rw [hsz]
    rcases hents b hb with hb | hb
    · have := h.elt b hb; omega
    · have := (hvs b hb).1; omega
  · intro b hb
    rcases hents b hb with hb | hb
    · exact hrows b (h.elt b hb) (h.sep b hb)
    · exact hrows b (hvs b hb).1 (hvs b hb).2.1
  · intro b hb hc
    exact h.bi b hb hc
  · intro b hb hc
    have hl := (h.bown.lt b hb.symm).2
    exact h.br b hb (hmv b hl hc)
  · intro b hb hc
    have hl := (h.iown.lt b hb.symm).2
    exact h.ir b hb (hmv b hl hc)
  · intro hc
    rcases hset wb hc with hc | hc | hc
    · exact hwb hc
    · exact (hvs wb hc).2.2 rfl
    · omega
end Go.Proofs.YtndlmgocldckfaaGreat

namespace Go.Proofs.YtndlmgocldckfaaGreat
open Go.RowKit
set_option linter.unusedVariables false
set_option linter.unusedSimpArgs false

theorem owns_formK {w : World} {base : Nat} {e : TypeId} {size : Nat} {v : Value} {n : Nat} {xs : List Value} (h : w.ownsRow base e size v n xs) : ∃ sa sc, v = .slice sa n sc := by
  obtain ⟨_, ⟨rfl, rfl⟩ | ⟨g, cap, cur, rfl, _⟩⟩ := h
  · exact ⟨_, _, rfl⟩
  · exact ⟨_, _, rfl⟩
theorem row_new (w : World) (T : TypeId) (xs : List Value) : RowAt (w.alloc (.cells xs.toArray T)) w.heap.size 0 xs := by
  intro j u hu
  rw [Nat.zero_add, cell_of_row _ w.heap.size j xs.toArray T (0, 0) (heap_alloc_new w _)]
  simpa using hu
theorem alloc_below (w : World) (o : Obj) : Below w.heap.size w (w.alloc o) := (Below.refl _ _).alloc (Nat.le_refl _) _
theorem sized {W : World} {a b : Nat} {xs : List Value} (h : a = b) (hr : RowAt W a 0 xs) : RowAt W b 0 xs := h ▸ hr
theorem own_cast {w : World} {base : Nat} {e : TypeId} {size : Nat} {v v' : Value} {n : Nat} {xs : List Value} (he : v = v') (h : w.ownsRow base e size v n xs) : w.ownsRow base e size v' n xs := he ▸ h
end Go.Proofs.YtndlmgocldckfaaGreat

namespace Go.Proofs.YtndlmgocldckfaaGreat
open Go.RowKit
set_option linter.unusedVariables false
set_option linter.unusedSimpArgs false

/-- The book where it lies. -/
structure BkP (w : World) (wb : Nat) (k : BkD) : Prop where
  ok : BkOK w k
  nw : ¬ k.set wb
  room : Room w wb 4
  c1 : w.cell? ⟨wb, 1, none⟩ = some k.bv
  c2 : w.cell? ⟨wb, 2, none⟩ = some k.iv
  c3 : w.cell? ⟨wb, 3, none⟩ = some k.rv
/-- The book, and what came of it. -/
structure BkStep (wb : Nat) (k k' : BkD) (S : Nat → Prop) (w w' : World) : Prop where
  p : BkP w' wb k'
  only : Only (fun b => b = wb ∨ k.set b ∨ S b) w w'
  sub : ∀ b, k'.set b → k.set b ∨ S b ∨ w.heap.size ≤ b
  c0 : ∀ v, w.cell? ⟨wb, 0, none⟩ = some v → w'.cell? ⟨wb, 0, none⟩ = some v

theorem BkP.lt {w : World} {wb : Nat} {k : BkD} (h : BkP w wb k) : wb < w.heap.size := lt_of_cell h.c1
theorem BkP.only {w w' : World} {wb : Nat} {k : BkD} {S : Nat → Prop} (h : BkP w wb k) (ho : Only S w w') (hS : ∀ b, k.set b → ¬ S b) (hw : ¬ S wb) : BkP w' wb k :=
  ⟨h.ok.only ho hS, h.nw, h.room.only ho hw, ho.at h.c1 hw, ho.at h.c2 hw, ho.at h.c3 hw⟩
theorem BkP.below {w w' : World} {wb : Nat} {k : BkD} (h : BkP w wb k) (hb : Below w.heap.size w w') : BkP w' wb k := h.only (Only.new (S := fun _ => False) hb) (by simp) (by simp)
theorem BkStep.refl {w : World} {wb : Nat} {k : BkD} {S : Nat → Prop} (h : BkP w wb k) : BkStep wb k k S w w := ⟨h, Only.refl _ _, fun b hb => .inl hb, fun v hv => hv⟩
theorem BkStep.trans {w w' w'' : World} {wb : Nat} {k k' k'' : BkD} {S : Nat → Prop} (h : BkStep wb k k' S w w') (g : BkStep wb k' k'' S w' w'') : BkStep wb k k'' S w w'' := by
  have hz := h.only.size
  refine ⟨g.p, h.only.chain g.only ?_, ?_, fun v hv => g.c0 v (h.c0 v hv)⟩
  · rintro b hb (e | e | e)
    · exact .inl e
    · rcases h.sub b e with e | e | e
      · exact .inr (.inl e)
      · exact .inr (.inr e)
      · omega
    · exact .inr (.inr e)
  · intro b hb
    rcases g.sub b hb with hb | hb | hb
    · exact h.sub b hb
    · exact .inr (.inl hb)
    · exact .inr (.inr (by omega))
/-- Ahead of the step: blocks that are the lists' own. -/
theorem BkStep.pre {w w' w'' : World} {wb : Nat} {k k' : BkD} {S : Nat → Prop} (ho : Only S w w') (hw : ¬ S wb) (g : BkStep wb k k' S w' w'') : BkStep wb k k' S w w'' := by
  have hz := ho.size
  refine ⟨g.p, (ho.mono (fun b _ hb => .inr (.inr hb))).trans g.only, ?_, fun v hv => g.c0 v (ho.at hv hw)⟩
  intro b hb
  rcases g.sub b hb with hb | hb | hb
  · exact .inl hb
  · exact .inr (.inl hb)
  · exact .inr (.inr (by omega))
theorem BkStep.mono {w w' : World} {wb : Nat} {k k' : BkD} {S S' : Nat → Prop} (h : BkStep wb k k' S w w') (hS : ∀ b, S b → S' b) : BkStep wb k k' S' w w' := by
  refine ⟨h.p, h.only.mono ?_, ?_, h.c0⟩
  · rintro b _ (e | e | e)
    · exact .inl e
    · exact .inr (.inl e)
    · exact .inr (.inr (hS b e))
  · intro b hb
    rcases h.sub b hb with hb | hb | hb
    · exact .inl hb
    · exact .inr (.inl (hS b hb))
    · exact .inr (.inr hb)

theorem BkP.pushI {w W w2 : World} {k : BkD} {wb : Nat} {v v' : Value} {n : Nat} {S : Nat → Prop} (h : BkP w wb k) (hB : Below w.heap.size w W) (hg : W.grownBy w2 k.iv.ownBlock) (hown : w2.ownsRow 0 24 1 v' (k.il.length + 1) (k.il ++ [v])) (hwh : v'.ownBlock = k.iv.ownBlock ∨ v'.ownBlock = some W.heap.size)
    (hn : n ≤ 1000000000) (hv : Fill w v n (reps n (markI k.il.length))) (hvs : ∀ b, some b = v.ownBlock → b < w.heap.size ∧ ¬ k.rows b ∧ b ≠ wb) (hS : ∀ b, some b = v.ownBlock → S b) :
    BkStep wb k { k with iv := v', il := k.il ++ [v] } S w (w2.setCell ⟨wb, 2, none⟩ v') ∧ (∀ b, b < w.heap.size → ¬ k.rows b → ¬ ({ k with iv := v', il := k.il ++ [v] } : BkD).rows b) ∧ Only (fun b => b = wb ∨ some b = k.iv.ownBlock) w (w2.setCell ⟨wb, 2, none⟩ v') := by
  obtain ⟨h1, h2, h3, h4, h5⟩ := h.ok.pushI (wb := wb) hB hg hown hwh hn hv hvs h.nw h.lt
  have hoc : Only (fun b => some b = k.iv.ownBlock) w w2 := (Only.new hB).trans (only_of_grown hg)
  have hwv : ¬ some wb = k.iv.ownBlock := fun e => h.nw (.inr (.inr (.inl e)))
  have hcell : ∀ (j : Nat) u, j ≠ 2 → w.cell? ⟨wb, j, none⟩ = some u → (w2.setCell ⟨wb, 2, none⟩ v').cell? ⟨wb, j, none⟩ = some u := by
    intro j u hj hu
    rw [World.cell?_setCell_other _ _ _ _ (by simp; try omega)]
    exact hoc.at hu hwv
  have hroom : Room w2 wb 4 := h.room.only hoc hwv
  refine ⟨⟨⟨h1, h4, hroom.setCell _ _, hcell 1 _ (by omega) h.c1, World.cell?_setCell_same' _ _ _ (hroom 2 (by omega)).1, hcell 3 _ (by omega) h.c3⟩, h2.mono ?_, ?_, fun u hu => hcell 0 u (by omega) hu⟩, h3, h2⟩
  · rintro b _ (e | e)
    · exact .inl e
    · exact .inr (.inl (.inr (.inr (.inl e))))
  · intro b hb
    rcases h5 b hb with hb | hb | hb
    · exact .inl hb
    · exact .inr (.inl (hS b hb))
    · exact .inr (.inr hb)

theorem owns_at {w : World} {Z : Nat} {e : TypeId} {k n c : Nat} {la : Option Addr} {xs : List Value} (h : w.ownsRow Z e k (.slice la n c) n xs) (hn : 0 < n) : ∃ g, la = some ⟨g, 0, none⟩ ∧ ∀ j, j < n * k → (∃ u, w.cell? ⟨g, j, none⟩ = some u) ∧ w.frozen? ⟨g, j, none⟩ = false := by
  obtain ⟨hx, ⟨hv, h0⟩ | ⟨g, cap, cur, hv, hb, hg, hnc, hcm, hcs, ht⟩⟩ := h
  · omega
  · simp only [Value.slice.injEq] at hv
    refine ⟨g, hv.1, fun j hj => ⟨⟨xs[j]'(by omega), ?_⟩, frozen_of_row w g j cur e hg⟩⟩
    have hO : w.ownsRow Z e k (.slice (some ⟨g, 0, none⟩) n cap) n xs := ⟨hx, .inr ⟨g, cap, cur, rfl, hb, hg, hnc, hcm, hcs, ht⟩⟩
    have := hO.cells (g := g) rfl j xs[j] (List.getElem?_eq_getElem (by omega))
    rwa [Addr.add_lit, Nat.zero_add] at this

/-- How far the marks are written. -/
structure MarkI (w wr : World) (Z : Nat) (e : TypeId) (l : Value) (n : Nat) (x : List Value) (j : Nat) : Prop where
  only : Only (fun b => some b = l.ownBlock) w wr
  own : ∃ ys, wr.ownsRow Z e x.length l n ys
  done : ∀ g, l.ownBlock = some g → RowAt wr g 0 (reps j x)

theorem MarkI.out {w wr : World} {Z : Nat} {e : TypeId} {la : Option Addr} {c n : Nat} {x : List Value} (h : MarkI w wr Z e (.slice la n c) n x n) : wr.ownsRow Z e x.length (.slice la n c) n (reps n x) := by
  obtain ⟨ys, hy⟩ := h.own
  rcases owns_row hy with ⟨he, h0, h1⟩ | ⟨g, cap, he, _, _, _⟩
  · subst h0
    rw [h1] at hy
    simpa [reps] using hy
  · rw [he] at hy ⊢
    exact owns_reads hy (h.done g (by rw [he]; rfl)) (reps_length _ _)
theorem MarkI.next1 {w wr : World} {Z : Nat} {e : TypeId} {g c n j : Nat} {v : Value} (h : MarkI w wr Z e (.slice (some ⟨g, 0, none⟩) n c) n [v] j) (hj : j < n) : MarkI w (wr.setCell ⟨g, j, none⟩ v) Z e (.slice (some ⟨g, 0, none⟩) n c) n [v] (j + 1) := by
  obtain ⟨ys, hy⟩ := h.own
  obtain ⟨g', hg', hat⟩ := owns_at hy (by omega)
  simp at hg'
  subst hg'
  refine ⟨h.only.setCell (p := ⟨g, j, none⟩) rfl _, owns_set hy j v, ?_⟩
  intro g' hg'
  simp [Value.ownBlock] at hg'
  subst hg'
  intro i u hu
  rw [reps_add] at hu
  by_cases hi : i < j
  · rw [List.getElem?_append_left (by rw [reps_length]; simpa using hi)] at hu
    rw [Nat.zero_add, World.cell?_setCell_other _ _ _ _ (by simp; try omega)]
    have := h.done g rfl i u hu
    rwa [Nat.zero_add] at this
  · rw [List.getElem?_append_right (by rw [reps_length]; simp only [List.length_cons, List.length_nil]; omega), reps_length] at hu
    have hi2 := (List.getElem?_eq_some_iff.1 hu).1
    simp [reps] at hi2
    have hij : i = j := by omega
    subst hij
    simp [reps] at hu
    subst hu
    rw [Nat.zero_add]
    obtain ⟨⟨u, hu⟩, _⟩ := hat i (by simpa using hj)
    exact World.cell?_setCell_same' _ _ _ (by rw [hu]; rfl)



/-- What is to be noted yet. -/
structure Pend (wb : Nat) (MK : List Value) (k0 k : BkD) (S : Nat → Prop) (w0 w : World) (todo : List (Value × Nat)) : Prop where
  st : BkStep wb k0 k S w0 w
  todo : ∀ v n, (v, n) ∈ todo → n ≤ 1000000000 ∧ Fill w v n (reps n MK) ∧ ∀ b, some b = v.ownBlock → S b ∧ b < w.heap.size ∧ ¬ k.rows b ∧ b ≠ wb
theorem BkP.pushR {w W w2 : World} {k : BkD} {wb : Nat} {v v' : Value} {n : Nat} {S : Nat → Prop} (h : BkP w wb k) (hB : Below w.heap.size w W) (hg : W.grownBy w2 k.rv.ownBlock) (hown : w2.ownsRow 0 39 1 v' (k.rl.length + 1) (k.rl ++ [v])) (hwh : v'.ownBlock = k.rv.ownBlock ∨ v'.ownBlock = some W.heap.size)
    (hn : n ≤ 1000000000) (hv : Fill w v n (reps n (markR k.rl.length))) (hvs : ∀ b, some b = v.ownBlock → b < w.heap.size ∧ ¬ k.rows b ∧ b ≠ wb) (hS : ∀ b, some b = v.ownBlock → S b) :
    BkStep wb k { k with rv := v', rl := k.rl ++ [v] } S w (w2.setCell ⟨wb, 3, none⟩ v') ∧ (∀ b, b < w.heap.size → ¬ k.rows b → ¬ ({ k with rv := v', rl := k.rl ++ [v] } : BkD).rows b) ∧ Only (fun b => b = wb ∨ some b = k.rv.ownBlock) w (w2.setCell ⟨wb, 3, none⟩ v') := by
  obtain ⟨h1, h2, h3, h4, h5⟩ := h.ok.pushR (wb := wb) hB hg hown hwh hn hv hvs h.nw h.lt
  have hoc : Only (fun b => some b = k.rv.ownBlock) w w2 := (Only.new hB).trans (only_of_grown hg)
  have hwv : ¬ some wb = k.rv.ownBlock := fun e => h.nw (.inr (.inr (.inr e)))
  have hcell : ∀ (j : Nat) u, j ≠ 3 → w.cell? ⟨wb, j, none⟩ = some u → (w2.setCell ⟨wb, 3, none⟩ v').cell? ⟨wb, j, none⟩ = some u := by
    intro j u hj hu
    rw [World.cell?_setCell_other _ _ _ _ (by simp; try omega)]
    exact hoc.at hu hwv
  have hroom : Room w2 wb 4 := h.room.only hoc hwv
  refine ⟨⟨⟨h1, h4, hroom.setCell _ _, hcell 1 _ (by omega) h.c1, hcell 2 _ (by omega) h.c2, World.cell?_setCell_same' _ _ _ (hroom 3 (by omega)).1⟩, h2.mono ?_, ?_, fun u hu => hcell 0 u (by omega) hu⟩, h3, h2⟩
  · rintro b _ (e | e)
    · exact .inl e
    · exact .inr (.inl (.inr (.inr (.inr e))))
  · intro b hb
    rcases h5 b hb with hb | hb | hb
    · exact .inl hb
    · exact .inr (.inl (hS b hb))
    · exact .inr (.inr hb)

theorem BkP.pushB {w W w2 : World} {k : BkD} {wb : Nat} {v v' : Value} {n : Nat} {S : Nat → Prop} (h : BkP w wb k) (hB : Below w.heap.size w W) (hg : W.grownBy w2 k.bv.ownBlock) (hown : w2.ownsRow 0 56 1 v' (k.bl.length + 1) (k.bl ++ [v])) (hwh : v'.ownBlock = k.bv.ownBlock ∨ v'.ownBlock = some W.heap.size)
    (hn : n ≤ 1000000000) (hv : Fill w v n (reps n (markB k.bl.length))) (hfr : Free w v) (hsp : ∀ (j : Nat) u b, k.bl[j]? = some u → some b = v.ownBlock → some b = u.ownBlock → j / 4 = k.bl.length / 4) (hvs : ∀ b, some b = v.ownBlock → b < w.heap.size ∧ ¬ k.rows b ∧ b ≠ wb) (hS : ∀ b, some b = v.ownBlock → S b) :
    BkStep wb k { k with bv := v', bl := k.bl ++ [v] } S w (w2.setCell ⟨wb, 1, none⟩ v') ∧ (∀ b, b < w.heap.size → ¬ k.rows b → ¬ ({ k with bv := v', bl := k.bl ++ [v] } : BkD).rows b) ∧ Only (fun b => b = wb ∨ some b = k.bv.ownBlock) w (w2.setCell ⟨wb, 1, none⟩ v') := by
  obtain ⟨h1, h2, h3, h4, h5⟩ := h.ok.pushB (wb := wb) hB hg hown hwh hn hv hfr hsp hvs h.nw h.lt
  have hoc : Only (fun b => some b = k.bv.ownBlock) w w2 := (Only.new hB).trans (only_of_grown hg)
  have hwv : ¬ some wb = k.bv.ownBlock := fun e => h.nw (.inr (.inl e))
  have hcell : ∀ (j : Nat) u, j ≠ 1 → w.cell? ⟨wb, j, none⟩ = some u → (w2.setCell ⟨wb, 1, none⟩ v').cell? ⟨wb, j, none⟩ = some u := by
    intro j u hj hu
    rw [World.cell?_setCell_other _ _ _ _ (by simp; try omega)]
    exact hoc.at hu hwv
  have hroom : Room w2 wb 4 := h.room.only hoc hwv
  refine ⟨⟨⟨h1, h4, hroom.setCell _ _, World.cell?_setCell_same' _ _ _ (hroom 1 (by omega)).1, hcell 2 _ (by omega) h.c2, hcell 3 _ (by omega) h.c3⟩, h2.mono ?_, ?_, fun u hu => hcell 0 u (by omega) hu⟩, h3, h2⟩
  · rintro b _ (e | e)
    · exact .inl e
    · exact .inr (.inl (.inr (.inl e)))
  · intro b hb
    rcases h5 b hb with hb | hb | hb
    · exact .inl hb
    · exact .inr (.inl (hS b hb))
    · exact .inr (.inr hb)


theorem Pend.midB {w0 w W w2 : World} {k0 k : BkD} {wb : Nat} {MK : List Value} {S : Nat → Prop} {todo : List (Value × Nat)} (h : Pend wb MK k0 k S w0 w todo) (hB : Below w.heap.size w W) (hg : W.grownBy w2 k.bv.ownBlock) : w2.cell? ⟨wb, 1, none⟩ = some k.bv ∧ w2.frozen? ⟨wb, 1, none⟩ = false := by
  have hoc : Only (fun b => some b = k.bv.ownBlock) w w2 := (Only.new hB).trans (only_of_grown hg)
  have hwv : ¬ some wb = k.bv.ownBlock := fun e => h.st.p.nw (.inr (.inl e))
  exact ⟨hoc.at h.st.p.c1 hwv, ((h.st.p.room.only hoc hwv) 1 (by omega)).2⟩

theorem Pend.pushI {w0 w W w2 : World} {k0 k : BkD} {wb : Nat} {MK : List Value} {v v' : Value} {n : Nat} {S : Nat → Prop} {rest : List (Value × Nat)} (h : Pend wb MK k0 k S w0 w ((v, n) :: rest)) (hmk : markI k.il.length = MK) (hB : Below w.heap.size w W) (hg : W.grownBy w2 k.iv.ownBlock) (hown : w2.ownsRow 0 24 1 v' (k.il.length + 1) (k.il ++ [v])) (hwh : v'.ownBlock = k.iv.ownBlock ∨ v'.ownBlock = some W.heap.size) :
    Pend wb MK k0 { k with iv := v', il := k.il ++ [v] } S w0 (w2.setCell ⟨wb, 2, none⟩ v') rest := by
  obtain ⟨hn, hv, hvs⟩ := h.todo v n List.mem_cons_self
  rw [← hmk] at hv
  obtain ⟨h1, h2, h3⟩ := h.st.p.pushI (S := S) hB hg hown hwh hn hv (fun b hb => (hvs b hb).2) (fun b hb => (hvs b hb).1)
  refine ⟨h.st.trans h1, fun x m hx => ?_⟩
  obtain ⟨a1, a2, a3⟩ := h.todo x m (List.mem_cons_of_mem _ hx)
  have hz := h3.size
  refine ⟨a1, a2.only h3 ?_, fun b hb => ?_⟩
  · rintro b hb (e | e)
    · exact (a3 b hb).2.2.2 e
    · exact (a3 b hb).2.2.1 (.inr <| .inl e)
  · obtain ⟨q1, q2, q3, q4⟩ := a3 b hb
    exact ⟨q1, by omega, h2 b q2 q3, q4⟩
theorem Pend.midI {w0 w W w2 : World} {k0 k : BkD} {wb : Nat} {MK : List Value} {S : Nat → Prop} {todo : List (Value × Nat)} (h : Pend wb MK k0 k S w0 w todo) (hB : Below w.heap.size w W) (hg : W.grownBy w2 k.iv.ownBlock) : w2.cell? ⟨wb, 2, none⟩ = some k.iv ∧ w2.frozen? ⟨wb, 2, none⟩ = false := by
  have hoc : Only (fun b => some b = k.iv.ownBlock) w w2 := (Only.new hB).trans (only_of_grown hg)
  have hwv : ¬ some wb = k.iv.ownBlock := fun e => h.st.p.nw (.inr (.inr <| .inl e))
  exact ⟨hoc.at h.st.p.c2 hwv, ((h.st.p.room.only hoc hwv) 2 (by omega)).2⟩

theorem Pend.pushR {w0 w W w2 : World} {k0 k : BkD} {wb : Nat} {MK : List Value} {v v' : Value} {n : Nat} {S : Nat → Prop} {rest : List (Value × Nat)} (h : Pend wb MK k0 k S w0 w ((v, n) :: rest)) (hmk : markR k.rl.length = MK) (hB : Below w.heap.size w W) (hg : W.grownBy w2 k.rv.ownBlock) (hown : w2.ownsRow 0 39 1 v' (k.rl.length + 1) (k.rl ++ [v])) (hwh : v'.ownBlock = k.rv.ownBlock ∨ v'.ownBlock = some W.heap.size) :
    Pend wb MK k0 { k with rv := v', rl := k.rl ++ [v] } S w0 (w2.setCell ⟨wb, 3, none⟩ v') rest := by
  obtain ⟨hn, hv, hvs⟩ := h.todo v n List.mem_cons_self
  rw [← hmk] at hv
  obtain ⟨h1, h2, h3⟩ := h.st.p.pushR (S := S) hB hg hown hwh hn hv (fun b hb => (hvs b hb).2) (fun b hb => (hvs b hb).1)
  refine ⟨h.st.trans h1, fun x m hx => ?_⟩
  obtain ⟨a1, a2, a3⟩ := h.todo x m (List.mem_cons_of_mem _ hx)
  have hz := h3.size
  refine ⟨a1, a2.only h3 ?_, fun b hb => ?_⟩
  · rintro b hb (e | e)
    · exact (a3 b hb).2.2.2 e
    · exact (a3 b hb).2.2.1 (.inr <| .inr e)
  · obtain ⟨q1, q2, q3, q4⟩ := a3 b hb
    exact ⟨q1, by omega, h2 b q2 q3, q4⟩
theorem Pend.midR {w0 w W w2 : World} {k0 k : BkD} {wb : Nat} {MK : List Value} {S : Nat → Prop} {todo : List (Value × Nat)} (h : Pend wb MK k0 k S w0 w todo) (hB : Below w.heap.size w W) (hg : W.grownBy w2 k.rv.ownBlock) : w2.cell? ⟨wb, 3, none⟩ = some k.rv ∧ w2.frozen? ⟨wb, 3, none⟩ = false := by
  have hoc : Only (fun b => some b = k.rv.ownBlock) w w2 := (Only.new hB).trans (only_of_grown hg)
  have hwv : ¬ some wb = k.rv.ownBlock := fun e => h.st.p.nw (.inr (.inr <| .inr e))
  exact ⟨hoc.at h.st.p.c3 hwv, ((h.st.p.room.only hoc hwv) 3 (by omega)).2⟩

/-- Three lists out of one, each with more marks behind it. -/
theorem three_lists {wr w1 w2 w3 A1 A2 A3 : World} {Z s1 s2 s3 : Nat} {e : TypeId} {x : List Value} {l v1 v2 v3 : Value} {j : Nat} (H0 : wr.ownsRow Z e x.length l j (reps j x))
    (hA1 : Below wr.heap.size wr A1) (h1 : w1.ownsRow Z e x.length v1 (j + 1) (reps (j + 1) x)) (g1 : A1.grownBy w1 l.ownBlock) (k1 : w1.ownsRow Z e x.length l j (reps j x) ∧ ((v1.ownBlock = l.ownBlock ∧ l.ownBlock ≠ none) ∨ (Below s1 A1 w1 ∧ v1.ownBlock = some s1))) (q1 : A1.heap.size = s1)
    (hA2 : Below w1.heap.size w1 A2) (h2 : w2.ownsRow Z e x.length v2 (j + 2) (reps (j + 2) x)) (g2 : A2.grownBy w2 l.ownBlock) (k2 : w2.ownsRow Z e x.length l j (reps j x) ∧ ((v2.ownBlock = l.ownBlock ∧ l.ownBlock ≠ none) ∨ (Below s2 A2 w2 ∧ v2.ownBlock = some s2))) (q2 : A2.heap.size = s2)
    (hA3 : Below w2.heap.size w2 A3) (h3 : w3.ownsRow Z e x.length v3 (j + 3) (reps (j + 3) x)) (g3 : A3.grownBy w3 l.ownBlock) (k3 : w3.ownsRow Z e x.length l j (reps j x) ∧ ((v3.ownBlock = l.ownBlock ∧ l.ownBlock ≠ none) ∨ (Below s3 A3 w3 ∧ v3.ownBlock = some s3))) (q3 : A3.heap.size = s3) :
    Only (fun b => some b = l.ownBlock) wr w3 ∧ ∀ v n, (v, n) ∈ [(l, j), (v1, j + 1), (v2, j + 2), (v3, j + 3)] → Fill w3 v n (reps n x) ∧ ∀ b, some b = v.ownBlock → (some b = l.ownBlock ∨ wr.heap.size ≤ b) ∧ b < w3.heap.size := by
  subst q1 q2 q3
  have a1 := hA1.size
  have a2 := hA2.size
  have a3 := hA3.size
  have b1 := g1.size
  have b2 := g2.size
  have b3 := g3.size
  have ho : Only (fun b => some b = l.ownBlock) wr w3 := ((((((Only.new hA1).trans (only_of_grown g1)).trans (Only.new hA2)).trans (only_of_grown g2)).trans (Only.new hA3)).trans (only_of_grown g3))
  have f12 : Fill w2 v1 (j + 1) (reps (j + 1) x) := Fill.beside (d := 2) rfl ((Fill.of_owns h1).only (Only.new (S := fun _ => False) hA2) (by simp)) (by omega) h2 g2 k2.2
  have f13 : Fill w3 v1 (j + 1) (reps (j + 1) x) := Fill.beside (d := 3) rfl (f12.only (Only.new (S := fun _ => False) hA3) (by simp)) (by omega) h3 g3 k3.2
  have f23 : Fill w3 v2 (j + 2) (reps (j + 2) x) := Fill.beside (d := 3) rfl ((Fill.of_owns h2).only (Only.new (S := fun _ => False) hA3) (by simp)) (by omega) h3 g3 k3.2
  refine ⟨ho, ?_⟩
  intro v n hv
  simp only [List.mem_cons, List.not_mem_nil, or_false, Prod.mk.injEq] at hv
  rcases hv with ⟨rfl, rfl⟩ | ⟨rfl, rfl⟩ | ⟨rfl, rfl⟩ | ⟨rfl, rfl⟩
  · exact ⟨Fill.of_owns k3.1, fun b hb => ⟨.inl hb, (k3.1.lt b hb.symm).2⟩⟩
  · refine ⟨f13, fun b hb => ⟨?_, by have := (h1.lt b hb.symm).2; omega⟩⟩
    rcases k1.2 with ⟨e, _⟩ | ⟨_, e⟩
    · exact .inl (by rw [← e]; exact hb)
    · rw [e] at hb; have := Option.some.inj hb; exact .inr (by omega)
  · refine ⟨f23, fun b hb => ⟨?_, by have := (h2.lt b hb.symm).2; omega⟩⟩
    rcases k2.2 with ⟨e, _⟩ | ⟨_, e⟩
    · exact .inl (by rw [← e]; exact hb)
    · rw [e] at hb; have := Option.some.inj hb; exact .inr (by omega)
  · refine ⟨Fill.of_owns h3, fun b hb => ⟨?_, (h3.lt b hb.symm).2⟩⟩
    rcases k3.2 with ⟨e, _⟩ | ⟨_, e⟩
    · exact .inl (by rw [← e]; exact hb)
    · rw [e] at hb; have := Option.some.inj hb; exact .inr (by omega)

/-- The four lists, to be noted. -/
theorem pend_start {w wr w3 : World} {wb : Nat} {k : BkD} {x : List Value} {l v1 v2 v3 : Value} {j : Nat} (h : BkP w wb k) (hj : j ≤ 1000000) (hls : ∀ b, some b = l.ownBlock → ¬ k.set b ∧ b ≠ wb) (ho : Only (fun b => some b = l.ownBlock) w wr)
    (h3 : Only (fun b => some b = l.ownBlock) wr w3 ∧ ∀ v n, (v, n) ∈ [(l, j), (v1, j + 1), (v2, j + 2), (v3, j + 3)] → Fill w3 v n (reps n x) ∧ ∀ b, some b = v.ownBlock → (some b = l.ownBlock ∨ wr.heap.size ≤ b) ∧ b < w3.heap.size) :
    Pend wb x k k (fun b => some b = l.ownBlock ∨ w.heap.size ≤ b) w w3 [(l, j), (v1, j + 1), (v2, j + 2), (v3, j + 3)] := by
  have hz := ho.size
  have hz3 := h3.1.size
  have hw3 : Only (fun b => some b = l.ownBlock) w w3 := ho.trans h3.1
  have hwl := h.lt
  have hp : BkP w3 wb k := h.only hw3 (fun b hb e => (hls b e).1 hb) (fun e => (hls wb e).2 rfl)
  refine ⟨⟨hp, hw3.mono (fun b _ hb => .inr (.inr (.inl hb))), fun b hb => .inl hb, fun v hv => hw3.at hv (fun e => (hls wb e).2 rfl)⟩, ?_⟩
  intro v n hv
  obtain ⟨f, hb⟩ := h3.2 v n hv
  refine ⟨?_, f, fun b hbb => ?_⟩
  · simp only [List.mem_cons, List.not_mem_nil, or_false, Prod.mk.injEq] at hv
    omega
  · obtain ⟨q1, q2⟩ := hb b hbb
    refine ⟨?_, q2, ?_, ?_⟩
    · rcases q1 with q1 | q1
      · exact .inl q1
      · exact .inr (by omega)
    · intro hc
      rcases q1 with q1 | q1
      · exact (hls b q1).1 (.inr hc)
      · have := h.ok.lt b (.inr hc); omega
    · rcases q1 with q1 | q1
      · exact (hls b q1).2
      · omega

theorem BkStep.done {w w' : World} {wb : Nat} {k k' : BkD} {S : Nat → Prop} (h : BkStep wb k k' (fun b => S b ∨ w.heap.size ≤ b) w w') : BkStep wb k k' S w w' := by
  refine ⟨h.p, h.only.mono ?_, ?_, h.c0⟩
  · rintro b hb (e | e | e | e)
    · exact .inl e
    · exact .inr (.inl e)
    · exact .inr (.inr e)
    · omega
  · intro b hb
    rcases h.sub b hb with e | (e | e) | e
    · exact .inl e
    · exact .inr (.inl e)
    · exact .inr (.inr e)
    · exact .inr (.inr e)

theorem Tryz.infoBs : (Tryz.prog.info? 56).map (fun i => (i.zero, i.size, i.bytes)) = some (some (.slice none 0 0), 1, 24) := by kernel_rfl
theorem Tryz.infoIs : (Tryz.prog.info? 24).map (fun i => (i.zero, i.size, i.bytes)) = some (some (.slice none 0 0), 1, 24) := by kernel_rfl
theorem Tryz.infoRs : (Tryz.prog.info? 39).map (fun i => (i.zero, i.size, i.bytes)) = some (some (.slice none 0 0), 1, 24) := by kernel_rfl

end Go.Proofs.YtndlmgocldckfaaGreat
