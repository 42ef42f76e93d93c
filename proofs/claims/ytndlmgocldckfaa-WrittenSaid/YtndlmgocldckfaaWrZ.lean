import Derived.Test.YtndlmgocldckfaaApp
import Derived.Laws.CopyRow
import Derived.BigRegion
import Derived.BigQuiet
import Derived.Deep.QuietTactic
import Derived.Deep.LoopGhost
import Derived.RegionTactic
import Derived.Deep.RegionHeld3
import Derived.Lib.ConvBytes
namespace Go.Proofs.Ytndlmgocldckfaa
open Go.RowKit
set_option linter.unusedVariables false
set_option linter.unusedSimpArgs false

/-! Rows of bytes that a conversion has made: they bear a mark behind their end. -/

def byteV (l : List Int) : List Value := l.map (Value.int .u8)
theorem byteV_append (a b : List Int) : byteV (a ++ b) = byteV a ++ byteV b := by simp [byteV]
theorem byteV_length (a : List Int) : (byteV a).length = a.length := by simp [byteV]
theorem byteV_one (l : List Int) : ∀ u ∈ byteV l, u.oneCell' = true := by
  intro v hv; simp [byteV] at hv; obtain ⟨x, _, rfl⟩ := hv; rfl

theorem Try.infoU8 : (Try.prog.info? 5).map (fun i => (i.zero, i.size, i.bytes)) = some (some (.int .u8 0), 1, 1) := by kernel_rfl

def Clear (fz : Nat × Nat) (n : Nat) : Prop := ∀ i, i < n → ¬ (fz.1 ≤ i ∧ i < fz.2)

theorem run_storeCells_clear {P : Program} (g o : Nat) (t : TypeId) (fz : Nat × Nat) : ∀ (vs : List Value) (i : Nat) (cur : Array Value) (w : World), w.heap[g]? = some (.cells cur t fz) → Clear fz cur.size → o + i + vs.length ≤ cur.size → (∀ v ∈ vs, v.oneCell' = true) →
    (storeCells ⟨g, o, none⟩ vs i).run P w = .ok () (w.setRow g (cur.toList.take (o + i) ++ vs ++ cur.toList.drop (o + i + vs.length)).toArray)
  | [], i, cur, w, hg, _, _, _ => by
    simp only [storeCells, List.append_nil, List.length_nil, Nat.add_zero, List.take_append_drop, Array.toArray_toList]
    rw [setRow_self w g cur t fz hg]
    rfl
  | v :: rest, i, cur, w, hg, hz, hl, h1 => by
    have hi : o + i < cur.size := by simp at hl; omega
    have hadd : (⟨g, o, none⟩ : Addr).add i = ⟨g, o + i, none⟩ := by unfold Addr.add; split <;> simp_all
    have hcell : w.cell? ⟨g, o + i, none⟩ = some cur[o + i] := by simp [World.cell?, hg, hi]
    have hfro : w.frozen? ⟨g, o + i, none⟩ = false := by
      obtain ⟨lo, hi'⟩ := fz
      have := hz (o + i) hi
      simp only [World.frozen?, hg]
      simp only [Bool.and_eq_false_iff, decide_eq_false_iff_not]
      simp only at this
      omega
    have hst : (store ((⟨g, o, none⟩ : Addr).add i) v).run P w = .ok () (w.setRow g (cur.setIfInBounds (o + i) v)) := by
      rw [hadd, run_store P w _ v _ (h1 v (by simp)), hcell]
      simp [hfro, setCell_eq_setRow w g (o + i) cur t fz v hg]
    have ih := run_storeCells_clear (P := P) g o t fz rest (i + 1) (cur.setIfInBounds (o + i) v) (w.setRow g (cur.setIfInBounds (o + i) v)) (setRow_heap w g cur _ t _ hg) (by simpa using hz) (by simp at hl ⊢; omega) (fun x hx => h1 x (by simp [hx]))
    simp only [storeCells, Sem.run_bind, hst, Result.andThen_ok, ih, setRow_setRow]
    congr 3
    have e := list_seg_step cur.toList (o + i) v rest (by simp at hl ⊢; omega)
    simpa [Array.toList_setIfInBounds, Nat.add_assoc] using e

/-- A row of bytes of the call's own. -/
def BRow (base : Nat) (w : World) (lv : Value) (l : List Int) : Prop :=
  ∃ g cap cur fz, lv = .slice (some ⟨g, 0, none⟩) l.length cap ∧ base ≤ g ∧ w.heap[g]? = some (.cells cur 5 fz) ∧ Clear fz cur.size ∧ l.length ≤ cap ∧ cap ≤ maxLen ∧ cur.size = cap ∧ cur.toList.take l.length = byteV l

theorem BRow.row {base : Nat} {w : World} {lv : Value} {l : List Int} (h : BRow base w lv l) : ∃ g cap, lv = .slice (some ⟨g, 0, none⟩) l.length cap ∧ base ≤ g ∧ g < w.heap.size ∧ RowAt w g 0 (byteV l) := by
  obtain ⟨g, cap, cur, fz, rfl, hb, hg, hz, h1, h2, h3, h4⟩ := h
  refine ⟨g, cap, rfl, hb, (Array.getElem?_eq_some_iff.1 hg).1, fun j v hv => ?_⟩
  have hj : j < l.length := by have := (List.getElem?_eq_some_iff.1 hv).1; simpa [byteV] using this
  rw [← h4, List.getElem?_take, if_pos hj] at hv
  simp only [World.cell?, hg, Nat.zero_add]
  simpa using hv
theorem BRow.keep {base : Nat} {w w' : World} {lv : Value} {l : List Int} {U : Nat → Prop} (h : BRow base w lv l) (ho : Only U w w') (hU : ∀ b, some b = lv.ownBlock → ¬ U b) : BRow base w' lv l := by
  obtain ⟨g, cap, cur, fz, rfl, hb, hg, r⟩ := h
  have hl := (Array.getElem?_eq_some_iff.1 hg).1
  exact ⟨g, cap, cur, fz, rfl, hb, (ho.block g hl (hU g rfl)).trans hg, r⟩
theorem BRow.lt {base : Nat} {w : World} {lv : Value} {l : List Int} (h : BRow base w lv l) : ∀ b, some b = lv.ownBlock → base ≤ b ∧ b < w.heap.size := by
  obtain ⟨g, cap, rfl, h1, h2, _⟩ := h.row
  intro b hb
  simp [Value.ownBlock] at hb
  omega
theorem BRow.form {base : Nat} {w : World} {lv : Value} {l : List Int} (h : BRow base w lv l) : ∃ g cap, lv = .slice (some ⟨g, 0, none⟩) l.length cap := by
  obtain ⟨g, cap, _, _, rfl, _⟩ := h; exact ⟨g, cap, rfl⟩
theorem BRow.mono {base base' : Nat} {w : World} {lv : Value} {l : List Int} (h : BRow base w lv l) (hb : base' ≤ base) : BRow base' w lv l := by
  obtain ⟨g, cap, cur, fz, rfl, h1, r⟩ := h
  exact ⟨g, cap, cur, fz, rfl, by omega, r⟩

/-- What is appended to such a row. -/
theorem run_append_b {P : Program} {w : World} (base : Nat) (t ty : TypeId) (ht : P.underlying t = some (.slice 5)) (i : TypeInfo) (hi : P.info? 5 = some i) (hz : i.zero = some (.int .u8 0)) (hs : i.size = 1) (hby : i.bytes = 1)
    (lv : Value) (l : List Int) (h : BRow base w lv l) (a : Addr) (c : Nat) (x : List Int) (hnews : ∀ j u, (byteV x)[j]? = some u → w.cell? (a.add j) = some u) (hbytes : l.length + x.length ≤ 140737488355328) (hbase : base ≤ w.heap.size) :
    ∃ v' w', (Builtin.append_ #[t, t] ty #[lv, .slice (some a) x.length c]).run P w = .ok v' w' ∧ BRow base w' v' (l ++ x) ∧ w.grownBy w' lv.ownBlock ∧ (v'.ownBlock = lv.ownBlock ∨ v'.ownBlock = some w.heap.size) := by
  have hrow := h.row
  obtain ⟨g, cap, cur, fz, rfl, hb, hg, hcl, h1, h2, h3, h4⟩ := h
  have hl : (byteV x).length = x.length * i.size := by simp [byteV, hs]
  by_cases hroom : l.length + x.length ≤ cap
  · have hf := run_firstCells_some (P := P) w i.size x.length a x.length c (byteV x) hl hnews
    have hst := run_storeCells_clear (P := P) g (l.length * i.size) 5 fz (byteV x) 0 cur w hg hcl (by rw [hs, byteV_length]; omega) (byteV_one x)
    simp only [Nat.add_zero] at hst
    have hr : (Builtin.append_ #[t, t] ty #[.slice (some ⟨g, 0, none⟩) l.length cap, .slice (some a) x.length c]).run P w = .ok (.slice (some ⟨g, 0, none⟩) (l.length + x.length) cap) (w.setRow g (cur.toList.take (l.length * i.size) ++ byteV x ++ cur.toList.drop (l.length * i.size + (byteV x).length)).toArray) := by
      simp [Builtin.append_, run_underlying ht, sizeOf, typeInfo, hi, Builtin.lenOf, hroom, hf, Addr.add_lit, hst]
    refine ⟨_, _, hr, ?_, ⟨rfl, rfl, rfl, by simp [World.setRow], fun k _ hk => setRow_other w g k _ (fun e => hk (by simp [Value.ownBlock, e]))⟩, .inl rfl⟩
    refine ⟨g, cap, _, fz, by simp, hb, setRow_heap w g cur _ _ _ hg, ?_, by simp; omega, h2, ?_, ?_⟩
    · simp only [hs, Nat.mul_one, List.size_toArray, List.length_append, List.length_take, List.length_drop, Array.length_toList, byteV_length]
      rw [show min l.length cur.size + x.length + (cur.size - (l.length + x.length)) = cur.size by omega]
      exact hcl
    · simp only [hs, Nat.mul_one, List.size_toArray, List.length_append, List.length_take, List.length_drop, Array.length_toList, byteV_length]
      omega
    · simp only [hs, Nat.mul_one, h4]
      rw [byteV_append, show (l ++ x).length = (byteV l ++ byteV x).length by simp [byteV]]
      exact List.take_left
  · obtain ⟨g', cap', he, _, _, hrw⟩ := hrow
    simp only [Value.slice.injEq, Option.some.injEq, Addr.mk.injEq] at he
    obtain ⟨⟨rfl, _⟩, _, rfl⟩ := he
    have holds : ∀ (j : Nat) u, (byteV l)[j]? = some u → w.cell? ((⟨g, 0, none⟩ : Addr).add j) = some u := fun j u hu => by rw [Addr.add_lit]; exact hrw j u hu
    have hr := run_append_grow (P := P) w t ty 5 i (.int .u8 0) ht hi hz ⟨g, 0, none⟩ l.length cap (byteV l) (by simp [byteV, hs]) holds a x.length c (byteV x) hl hnews (by omega) (by omega) (growslice_fits (by omega) (by rw [hby]; omega))
    refine ⟨_, _, hr, ?_, ⟨rfl, rfl, rfl, by simp, fun k hk _ => heap_alloc_old w.drew _ hk⟩, .inr rfl⟩
    have hge := grownCap_ge w (l.length + x.length) cap 5
    have hcm : grownCap w (l.length + x.length) cap 5 ≤ maxLen := grownCap_le_maxLen w (l.length + x.length) cap 5 (by simp only [maxLen]; omega)
    refine ⟨w.heap.size, _, _, (0, 0), by simp, hbase, heap_alloc_new w.drew _, by intro i hi; simp, by simp; omega, hcm, ?_, ?_⟩
    · simp only [Array.size_append, List.size_toArray, size_zeroCells, byteV_length]
      simp [Value.cells]
      omega
    · simp only [Array.toList_append]
      rw [byteV_append, show (l ++ x).length = (byteV l ++ byteV x).length by simp [byteV]]
      exact List.take_left

theorem wpList_append_b {P : Program} {w : World} {ops : Array Oper} {rest : List Oper} {o : Oper} {a : Act} {Q : Exit → Act → World → Prop} (hgd : o.guard = none) (s x : Operand) (t : TypeId)
    (ho : o.op = .call { callee := .builtin .append, args := #[s, x], argTypes := #[t, t] }) (base : Nat) (ht : P.underlying t = some (.slice 5)) (hinfo : (P.info? 5).map (fun i => (i.zero, i.size, i.bytes)) = some (some (.int .u8 0), 1, 1))
    (lv : Value) (l : List Int) (hs : a.eval s = lv) (h : BRow base w lv l) (b off c : Nat) (y : List Int) (hx : a.eval x = .slice (some ⟨b, off, none⟩) y.length c) (hnews : RowAt w b off (byteV y)) (hbytes : l.length + y.length ≤ 140737488355328) (hbase : base ≤ w.heap.size)
    (hK : ∀ v' w', Hid (BRow base w' v' (l ++ y)) → Hid (w.grownBy w' lv.ownBlock) → Hid (v'.ownBlock = lv.ownBlock ∨ v'.ownBlock = some w.heap.size) → wpList P ops Q rest (a.put o.dst v') w') : wpList P ops Q (o :: rest) a w := by
  obtain ⟨i, hi, hz, hsz, hby⟩ := info_parts hinfo
  obtain ⟨v', w', hr, h2, h3, h4⟩ := run_append_b (P := P) base t o.type ht i hi hz hsz hby lv l h ⟨b, off, none⟩ c y (fun j u hu => by rw [Addr.add_lit]; exact hnews j u hu) hbytes hbase
  refine wpList_plain hgd fun K hK' => ?_
  unfold Oper.wp
  simp [execOp, ho, resolve, invoke, builtin, hs, hx, hr, Result.andThen]
  exact hK' _ _ (hK v' w' h2 h3 h4)
end Go.Proofs.Ytndlmgocldckfaa

namespace Go.Proofs.Ytndlmgocldckfaa
open Go.RowKit
set_option linter.unusedVariables false
set_option linter.unusedSimpArgs false

/-! Numbers as bytes. -/

def numF : Nat → Int → List Int
  | 0, n => [n]
  | k + 1, n => if 127 < n then (n % 128 + 128) :: numF k (n / 128) else [n]
def numB (n : Int) : List Int := numF 9 n
def sgnI (n : Int) : Int := if n < 0 then -2 * n - 1 else 2 * n
def sgnB (n : Int) : List Int := numB (sgnI n)

/-- A writer as it lies. -/
structure WrP (base : Nat) (w : World) (wb : Nat) (lv : Value) (l : List Int) : Prop where
  cell : w.cell? ⟨wb, 0, none⟩ = some lv
  room : Room w wb 1
  row : BRow base w lv l
  sep : ¬ some wb = lv.ownBlock

def WSet (wb : Nat) (lv : Value) (b : Nat) : Prop := b = wb ∨ some b = lv.ownBlock
def MovedV (w : World) (lv lv' : Value) : Prop := lv'.ownBlock = lv.ownBlock ∨ ∃ g, lv'.ownBlock = some g ∧ w.heap.size ≤ g

theorem owns_form1 {w : World} {base : Nat} {e : TypeId} {size : Nat} {v : Value} {n : Nat} {xs : List Value} (h : w.ownsRow base e size v n xs) : ∃ sa sc, v = .slice sa n sc := by
  rcases owns_row h with ⟨rfl, rfl, _⟩ | ⟨g, cap, rfl, _⟩
  · exact ⟨_, _, rfl⟩
  · exact ⟨_, _, rfl⟩
theorem only_of_grown {w w' : World} {row : Option Nat} (h : w.grownBy w' row) : Only (fun b => some b = row) w w' := ⟨h.os, h.tape, h.output, h.size, fun k hk hn => h.block k hk hn⟩

theorem Only.chain {S T : Nat → Prop} {a b c : World} (h : Only S a b) (k : Only T b c) (ht : ∀ i, i < a.heap.size → T i → S i) : Only S a c :=
  ⟨k.os.trans h.os, k.tape.trans h.tape, k.output.trans h.output, Nat.le_trans h.size k.size, fun i hi hs => (k.block i (Nat.lt_of_lt_of_le hi h.size) (fun x => hs (ht i hi x))).trans (h.block i hi hs)⟩
theorem owns_keep {w w' : World} {base : Nat} {e : TypeId} {size : Nat} {v : Value} {n : Nat} {xs : List Value} {U : Nat → Prop} (h : w.ownsRow base e size v n xs) (ho : Only U w w') (hU : ∀ b, some b = v.ownBlock → ¬ U b) : w'.ownsRow base e size v n xs := by
  obtain ⟨h1, h2⟩ := h
  refine ⟨h1, ?_⟩
  rcases h2 with h2 | ⟨g, cap, cur, rfl, hg, hc, r⟩
  · exact .inl h2
  · have hl := (Array.getElem?_eq_some_iff.1 hc).1
    exact .inr ⟨g, cap, cur, rfl, hg, (ho.block g hl (hU g rfl)).trans hc, r⟩

theorem numF_bytes : ∀ (k : Nat) (n : Int), 0 ≤ n → n < 128 ^ (k + 1) → ∀ b ∈ numF k n, 0 ≤ b ∧ b < 256
  | 0, n, h0, h1, b, hb => by simp [numF] at hb; subst hb; simp at h1; omega
  | k + 1, n, h0, h1, b, hb => by
    rw [numF] at hb
    split at hb
    · rcases List.mem_cons.1 hb with rfl | hb
      · omega
      · refine numF_bytes k (n / 128) (by omega) ?_ b hb
        rw [Int.pow_succ] at h1
        omega
    · simp at hb; subst hb; omega

theorem numF_len : ∀ (k : Nat) (n : Int), (numF k n).length ≤ k + 1
  | 0, n => by simp [numF]
  | k + 1, n => by
    rw [numF]
    split
    · have := numF_len k (n / 128)
      simp; omega
    · simp

structure NumR (base : Nat) (w wr : World) (wb : Nat) (lv0 lv : Value) (l : List Int) : Prop where
  only : Only (WSet wb lv0) w wr
  moved : MovedV w lv0 lv
  wr : WrP base wr wb lv l

theorem NumR.step {base : Nat} {w wr w2 : World} {wb : Nat} {lv0 lv lv2 : Value} {l : List Int} {x : Int} {o1 : Obj} (h : NumR base w wr wb lv0 lv l) (hb : base ≤ w.heap.size) (hg : (wr.alloc o1).grownBy w2 lv.ownBlock) (hown : BRow base w2 lv2 (l ++ [x]))
    (hwh : lv2.ownBlock = lv.ownBlock ∨ lv2.ownBlock = some (wr.heap.size + 1)) : NumR base w (w2.setCell ⟨wb, 0, none⟩ lv2) wb lv0 lv2 (l ++ [x]) := by
  have hz := h.only.size
  have hwl := lt_of_cell h.wr.cell
  have hbA : Below wr.heap.size wr (wr.alloc o1) := (Below.refl _ _).alloc (Nat.le_refl _) _
  have hO : Only (fun b => some b = lv.ownBlock) wr w2 := (Only.new hbA).trans (only_of_grown hg)
  have hOs : Only (· = wb) w2 (w2.setCell ⟨wb, 0, none⟩ lv2) := Only.setCell (S := (· = wb)) (Only.refl _ _) (p := ⟨wb, 0, none⟩) rfl _
  have hr2 : Room w2 wb 1 := h.wr.room.only hO h.wr.sep
  have hsep2 : ¬ some wb = lv2.ownBlock := by
    rcases hwh with e | e
    · rw [e]; exact h.wr.sep
    · rw [e]; intro hc; simp at hc; omega
  have hmv : MovedV w lv0 lv2 := by
    rcases hwh with e | e
    · rcases h.moved with e' | ⟨g, e', hg'⟩
      · exact .inl (e.trans e')
      · exact .inr ⟨g, e.trans e', hg'⟩
    · exact .inr ⟨_, e, by omega⟩
  refine ⟨?_, hmv, ⟨World.cell?_setCell_same' _ _ _ (hr2 0 (by omega)).1, hr2.setCell _ _, ?_, hsep2⟩⟩
  · refine (h.only.chain hO ?_).chain hOs (fun k _ hk => .inl hk)
    intro k hk hc
    rcases h.moved with e' | ⟨g, e', hg'⟩
    · exact .inr (hc.trans e')
    · rw [e'] at hc; simp at hc; omega
  · exact hown.keep hOs (fun b hb hc => hsep2 (by rw [← hc]; exact hb))

theorem byteOf (n : Int) (h0 : 0 ≤ n) (h1 : n < 256) : IntKind.u8.wrap n = n := by
  simp [IntKind.wrap, IntKind.bits, IntKind.signed]
  omega

theorem row_one (w : World) (v : Value) (T : TypeId) : RowAt (w.alloc (.cells #[v] T)) w.heap.size 0 [v] := by
  intro j u hu
  have hj : j < 1 := by have := (List.getElem?_eq_some_iff.1 hu).1; simpa using this
  obtain rfl : j = 0 := by omega
  simp at hu
  subst hu
  rw [World.cell?_alloc_at _ _ _ _ rfl]; rfl

set_option maxRecDepth 100000 in
set_option maxHeartbeats 4000000 in
theorem number_any (base wb : Nat) (lv : Value) (l : List Int) (n : Int) (w : World) (h : WrP base w wb lv l) (hb : base ≤ w.heap.size) (hl : l.length ≤ 1000000) (hn : 0 ≤ n ∧ n ≤ 9223372036854775807) :
    Calls Try.prog 50 #[.pointer (some ⟨wb, 0, none⟩), .int .i64 n] w fun e w' => e = .returned (.tuple #[]) ∧ ∃ lv', NumR base w w' wb lv lv' (l ++ numB n) := by
  have H := hide h
  clear h
  go_enter Try.func50, Try.ntmps50
  go_wp2_with fail
  go_loopg [1] 11 (fun g s1 wr => ∃ (f : Nat) (m : Int) (lv2 : Value) (ld : List Int), s1 = .int .i64 m ∧ f + 1 ≤ g ∧ f ≤ 9 ∧ 0 ≤ m ∧ m ≤ 9223372036854775807 ∧ ld.length + f = l.length + 9 ∧ Hid (m < 128 ^ (f + 1) ∧ NumR base w wr wb lv lv2 ld ∧ ld ++ numF f m = l ++ numB n))
  case atStart => exact ⟨9, n, lv, l, rfl, by omega, by omega, hn.1, hn.2, by omega, by simp; omega, ⟨Only.refl _ _, .inl rfl, H.out⟩, rfl⟩
  case round =>
    obtain ⟨f, m, lv2, ld, rfl, hg, hf, hm0, hm1, hdl, hI⟩ := hrel
    have hc := hI.out.2.1.wr.cell
    have hfz := (hI.out.2.1.wr.room 0 (by omega)).2
    have hzr := hI.out.2.1.only.size
    have hrow := hide hI.out.2.1.wr.row
    have hsep := hide hI.out.2.1.wr.sep
    by_cases h127 : 127 < m
    · obtain ⟨f', rfl⟩ : ∃ f', f = f' + 1 := by
        rcases f with _ | f'
        · have := hI.out.1; simp at this; omega
        · exact ⟨f', rfl⟩
      have d1 : decide (127 < m) = true := by simpa using h127
      have hr : m.tmod 128 = m % 128 := Int.tmod_eq_emod_of_nonneg (by omega)
      have hq : m.tdiv 128 = m / 128 := Int.tdiv_eq_ediv_of_nonneg (by omega)
      have w1 : IntKind.i64.wrap (m % 128) = m % 128 := by rw [IntKind.wrap_i64]; omega
      have w2 : IntKind.i64.wrap (m % 128 + 128) = m % 128 + 128 := by rw [IntKind.wrap_i64]; omega
      have w3 : IntKind.u8.wrap (m % 128 + 128) = m % 128 + 128 := byteOf _ (by omega) (by omega)
      have w4 : IntKind.i64.wrap (m / 128) = m / 128 := by rw [IntKind.wrap_i64]; omega
      go_wp2_with (at_builtin; refine wpList_append_b rfl (.tmp 10) (.tmp 15) 46 rfl base Try.underlying46 Try.infoU8 _ ld rfl (hrow.out.keep (Only.new (S := fun _ => False) ((Below.refl _ _).alloc (Nat.le_refl _) _)) (by simp)) _ 0 _ [m % 128 + 128] rfl ?_ (by simp; omega) (by simp; omega) ?_)
      · exact row_one _ _ _
      intro v5 w5 hown5 hgr5 hwh5
      have hS := hide (hI.out.2.1.step hb hgr5.out hown5.out hwh5.out)
      have hbA : Below wr.heap.size wr (wr.alloc (.cells #[.int .u8 (m % 128 + 128)] 5)) := (Below.refl _ _).alloc (Nat.le_refl _) _
      have hO : Only (fun b => some b = lv2.ownBlock) wr w5 := (Only.new hbA).trans (only_of_grown hgr5.out)
      have hc5 := hO.at hc hsep.out
      have hf5 := ((hI.out.2.1.wr.room.only hO hsep.out) 0 (by omega)).2
      obtain ⟨sa5, sc5, rfl⟩ := hown5.out.form
      have hS2 := hS.out
      simp only [List.length_append, List.length_cons, List.length_nil, Nat.zero_add] at hS2
      have HS2 := hide hS2
      clear hS2 hS
      clear hbA hO hc hfz
      go_wp2_with fail
      go_roundg (f' + 1)
      case measure => omega
      case rel =>
        refine ⟨f', m / 128, _, ld ++ [m % 128 + 128], rfl, by omega, by omega, by omega, by omega, by simp; omega, ?_, HS2.out, ?_⟩
        · have := hI.out.1
          rw [Int.pow_succ] at this
          omega
        · have := hI.out.2.2
          rw [numF, if_pos h127] at this
          rw [← this]; simp
    · have d1 : decide (127 < m) = false := by simpa using h127
      have w3 : IntKind.u8.wrap m = m := byteOf _ (by omega) (by omega)
      go_wp2_with (at_builtin; refine wpList_append_b rfl (.tmp 25) (.tmp 28) 46 rfl base Try.underlying46 Try.infoU8 _ ld rfl (hrow.out.keep (Only.new (S := fun _ => False) ((Below.refl _ _).alloc (Nat.le_refl _) _)) (by simp)) _ 0 _ [m] rfl ?_ (by simp; omega) (by simp; omega) ?_)
      · exact row_one _ _ _
      intro v5 w5 hown5 hgr5 hwh5
      have hS := hide (hI.out.2.1.step hb hgr5.out hown5.out hwh5.out)
      have hbA : Below wr.heap.size wr (wr.alloc (.cells #[.int .u8 m] 5)) := (Below.refl _ _).alloc (Nat.le_refl _) _
      have hO : Only (fun b => some b = lv2.ownBlock) wr w5 := (Only.new hbA).trans (only_of_grown hgr5.out)
      have hc5 := hO.at hc hsep.out
      have hf5 := ((hI.out.2.1.wr.room.only hO hsep.out) 0 (by omega)).2
      obtain ⟨sa5, sc5, rfl⟩ := hown5.out.form
      have hS2 := hS.out
      simp only [List.length_append, List.length_cons, List.length_nil, Nat.zero_add] at hS2
      have HS2 := hide hS2
      clear hS2 hS
      clear hbA hO hc hfz
      go_wp2_with fail
      go_end0
      have hfin : ld ++ [m] = l ++ numB n := by
        have := hI.out.2.2
        rcases f with _ | f'
        · exact this
        · rw [numF, if_neg (by omega)] at this; exact this
      exact ⟨rfl, _, by rw [← hfin]; exact HS2.out⟩

theorem NumR.trans {base : Nat} {w w1 w2 : World} {wb : Nat} {lv lv1 lv2 : Value} {l l2 : List Int} (h : NumR base w w1 wb lv lv1 l) (k : NumR base w1 w2 wb lv1 lv2 l2) : NumR base w w2 wb lv lv2 l2 := by
  have hz := h.only.size
  refine ⟨h.only.chain k.only ?_, ?_, k.wr⟩
  · rintro i hi (hc | hc)
    · exact .inl hc
    · rcases h.moved with e | ⟨g, e, hg⟩
      · exact .inr (hc.trans e)
      · rw [e] at hc; simp at hc; omega
  · rcases k.moved with e | ⟨g, e, hg⟩
    · rcases h.moved with e' | ⟨g', e', hg'⟩
      · exact .inl (e.trans e')
      · exact .inr ⟨g', e.trans e', hg'⟩
    · exact .inr ⟨g, e, by omega⟩

theorem numB_len (n : Int) : (numB n).length ≤ 10 := numF_len 9 n

set_option maxRecDepth 100000 in
set_option maxHeartbeats 4000000 in
theorem signed_any (base wb : Nat) (lv : Value) (l : List Int) (n : Int) (w : World) (h : WrP base w wb lv l) (hb : base ≤ w.heap.size) (hl : l.length ≤ 1000000) (hn : -1000000000 ≤ n ∧ n ≤ 1000000000) :
    Calls Try.prog 51 #[.pointer (some ⟨wb, 0, none⟩), .int .i64 n] w fun e w' => e = .returned (.tuple #[]) ∧ ∃ lv', NumR base w w' wb lv lv' (l ++ sgnB n) := by
  have H := hide h
  clear h
  by_cases h0 : n < 0
  · have d1 : decide (n < 0) = true := by simpa using h0
    have w1 : IntKind.i64.wrap (-2 * n) = -2 * n := by rw [IntKind.wrap_i64]; omega
    have w2 : IntKind.i64.wrap (-2 * n - 1) = -2 * n - 1 := by rw [IntKind.wrap_i64]; omega
    have hs : sgnB n = numB (-2 * n - 1) := by simp [sgnB, sgnI, h0]
    go_enter Try.func51, Try.ntmps51
    go_wp2_with fail
    refine (number_any base wb lv l _ w H.out hb hl (by omega)).mono ?_
    rintro e w1 ⟨rfl, lv', hN⟩
    go_wp2_with fail
    go_end0
    exact ⟨rfl, lv', hs ▸ hN⟩
  · have d1 : decide (n < 0) = false := by simpa using h0
    have w1 : IntKind.i64.wrap (2 * n) = 2 * n := by rw [IntKind.wrap_i64]; omega
    have hs : sgnB n = numB (2 * n) := by simp [sgnB, sgnI, h0]
    go_enter Try.func51, Try.ntmps51
    go_wp2_with fail
    refine (number_any base wb lv l _ w H.out hb hl (by omega)).mono ?_
    rintro e w1 ⟨rfl, lv', hN⟩
    go_wp2_with fail
    go_end0
    exact ⟨rfl, lv', hs ▸ hN⟩
end Go.Proofs.Ytndlmgocldckfaa

namespace Go.Proofs.Ytndlmgocldckfaa
open Go.RowKit
set_option linter.unusedVariables false
set_option linter.unusedSimpArgs false

def strB (s : ByteArray) : List Int := s.data.toList.map fun b => (b.toNat : Int)
theorem strB_length (s : ByteArray) : (strB s).length = s.size := by simp [strB]

theorem bytesWorld_below (w : World) (e : TypeId) (s : ByteArray) : Below w.heap.size w (Lib.bytesWorld w e s) :=
  ⟨rfl, rfl, rfl, by rw [Lib.bytesWorld_size]; omega, fun k hk => Lib.bytesWorld_at_old w e s k hk⟩

theorem bytesWorld_row (w : World) (s : ByteArray) (hs : s.size ≤ 1000) : BRow w.heap.size (Lib.bytesWorld w 5 s) (.slice (some ⟨w.heap.size, 0, none⟩) (strB s).length (grownCap w s.size 0 5)) (strB s) := by
  have hge := grownCap_ge w s.size 0 5
  have hcm : grownCap w s.size 0 5 ≤ maxLen := grownCap_le_maxLen w s.size 0 5 (by simp only [maxLen]; omega)
  have hl := strB_length s
  have hsz : (Lib.bytesCells w 5 s).size = grownCap w s.size 0 5 := by
    simp [Lib.bytesCells]
    have : s.data.size = s.size := rfl
    omega
  refine ⟨w.heap.size, _, _, _, rfl, Nat.le_refl _, Lib.bytesWorld_at_new w 5 s, ?_, by omega, hcm, hsz, ?_⟩
  · intro i hi; simp; omega
  · have : (Lib.bytesCells w 5 s).toList = byteV (strB s) ++ List.replicate (grownCap w s.size 0 5 - s.size) (.int .u8 0) := by
      simp [Lib.bytesCells, byteV, strB, Function.comp_def]
    rw [this, show (strB s).length = (byteV (strB s)).length by simp [byteV]]
    exact List.take_left

set_option maxRecDepth 100000 in
set_option maxHeartbeats 4000000 in
theorem begin_any (w : World) (s : ByteArray) (hs : s.size ≤ 1000) :
    Calls Try.prog 30 #[.string s] w fun e w' => ∃ wb lv, e = .returned (.pointer (some ⟨wb, 0, none⟩)) ∧ Below w.heap.size w w' ∧ w.heap.size ≤ wb ∧ WrP w.heap.size w' wb lv (strB s) ∧ (∀ b, some b = lv.ownBlock → w.heap.size ≤ b) := by
  have hcv := Lib.run_convert_string_bytes (P := Try.prog) w 9 46 5 s Try.underlying9 Try.underlying46 Try.underlying5
  have hrow := bytesWorld_row w s hs
  have hbel := bytesWorld_below w 5 s
  have hsz := Lib.bytesWorld_size w 5 s
  generalize Lib.bytesWorld w 5 s = W1 at hcv hrow hbel hsz
  generalize grownCap w s.size 0 5 = cap at hcv hrow
  rw [strB_length] at hrow
  have Hrow := hide hrow
  have Hbel := hide hbel
  clear hrow hbel
  go_enter Try.func30, Try.ntmps30
  go_wp2_with fail
  go_ret
  obtain ⟨W2, hW2⟩ : ∃ W2, W2 = W1.alloc (.cells #[.slice (some ⟨w.heap.size, 0, none⟩) s.size cap] 113) := ⟨_, rfl⟩
  have hb2 : Below W1.heap.size W1 W2 := by rw [hW2]; exact (Below.refl _ _).alloc (Nat.le_refl _) _
  rw [← hW2]
  refine ⟨w.heap.size + 1, _, rfl, Hbel.out.trans (hb2.mono (by omega)), by omega, ⟨?_, ?_, Hrow.out.keep (Only.new (S := fun _ => False) hb2) (by simp), ?_⟩, ?_⟩
  · rw [hW2, World.cell?_alloc_at _ _ _ _ hsz.symm]; rfl
  · intro j hj
    obtain rfl : j = 0 := by omega
    rw [hW2, World.cell?_alloc_at _ _ _ _ hsz.symm, World.frozen?_alloc_at _ _ _ _ hsz.symm]
    exact ⟨rfl, rfl⟩
  · simp [Value.ownBlock]
  · intro b hb; simp [Value.ownBlock] at hb; omega

theorem results_cell1 {fn : Func} {p : Tmp} {ty : TypeId} (h : fn.results = #[.cell p ty]) (tmps : Array Value) (P : Program) (w : World) :
    (results fn tmps).run P w = ((asAddr (tmps.getD p undef)).run P w).andThen fun a w₁ => (loadVar ty a).run P w₁ := by
  simp only [results, h]
  simp [Sem.run_bind, Result.andThen]

def sumS (s c : Int) : Int := ((33 * s) % 4294967296 + c) % 4294967296
def sumF (l : List Int) : Int := l.foldl sumS 5381
def sumB (l : List Int) : List Int := [sumF l / 16777216 % 256, sumF l / 65536 % 256, sumF l / 256 % 256, sumF l % 256]
theorem sumS_lt (s c : Int) : 0 ≤ sumS s c ∧ sumS s c < 4294967296 := by unfold sumS; omega
theorem sumF_lt (l : List Int) : 0 ≤ sumF l ∧ sumF l < 4294967296 := by
  unfold sumF
  rcases List.eq_nil_or_concat l with rfl | ⟨l', x, rfl⟩
  · simp
  · simp only [List.concat_eq_append, List.foldl_append, List.foldl_cons, List.foldl_nil]
    exact sumS_lt _ _

set_option maxRecDepth 100000 in
set_option maxHeartbeats 4000000 in
theorem sum_any (w : World) (b off cap : Nat) (l : List Int) (hrow : RowAt w b off (byteV l)) (hl : l.length ≤ 2000000000000000) (hv : ∀ c ∈ l, 0 ≤ c ∧ c < 256) :
    Calls Try.prog 53 #[.slice (some ⟨b, off, none⟩) l.length cap] w fun e w' => e = .returned (.agg #[.int .u8 (sumF l / 16777216 % 256), .int .u8 (sumF l / 65536 % 256), .int .u8 (sumF l / 256 % 256), .int .u8 (sumF l % 256)]) ∧ Below w.heap.size w w' := by
  have Hrow := hide hrow
  have Hv := hide hv
  clear hrow hv
  go_enter Try.func53, Try.ntmps53
  go_wp2_with fail
  go_loopg [3, 5, 8] (l.length + 2) (fun g s3 s5 s8 wr => ∃ (i : Nat), s8 = .int .i64 i ∧ s3 = .int .u32 (sumF (l.take i)) ∧ l.length - i + 1 ≤ g ∧ i ≤ l.length ∧ Hid (wr = w.alloc (.cells #[.int .u8 0, .int .u8 0, .int .u8 0, .int .u8 0] 115)))
  case atStart => exact ⟨0, rfl, by simp [sumF], by omega, by omega, rfl⟩
  case round =>
    obtain ⟨i, rfl, rfl, hg, hi, hI⟩ := hrel
    obtain rfl := hI.out
    by_cases hlt : i < l.length
    · have d1 : decide ((i : Int) < (l.length : Int)) = true := by simp; omega
      have hii : (i : Int) < (l.length : Int) := by omega
      have hw : IntKind.i64.wrap ((i : Int) + 1) = (i : Int) + 1 := by rw [IntKind.wrap_i64]; omega
      have hc := Hrow.out i (.int .u8 l[i]) (by simp [byteV, hlt])
      have hcb := lt_of_cell hc
      have hc' := below_at ((Below.refl w.heap.size w).alloc (Nat.le_refl _) (.cells #[.int .u8 0, .int .u8 0, .int .u8 0, .int .u8 0] 115)) hc hcb
      have hx := Hv.out l[i] (List.getElem_mem hlt)
      have HS : Hid (sumF (l.take (i + 1)) = sumS (sumF (l.take i)) l[i]) := by
        show _ = _
        unfold sumF
        rw [List.take_succ_eq_append_getElem hlt, List.foldl_append]
        rfl
      have hsl := sumF_lt (l.take i)
      generalize sumF (l.take i) = s at HS hsl ⊢
      generalize l[i] = x at hc hc' hx HS
      have w1 : IntKind.u32.wrap (33 * s) = (33 * s) % 4294967296 := by simp [IntKind.wrap, IntKind.bits, IntKind.signed]
      have w2 : IntKind.u32.wrap x = x := by simp [IntKind.wrap, IntKind.bits, IntKind.signed]; omega
      have w3 : IntKind.u32.wrap ((33 * s) % 4294967296 + x) = sumS s x := by simp [IntKind.wrap, IntKind.bits, IntKind.signed, sumS]
      go_wp2_with fail
      go_roundg (l.length - (i + 1) + 1)
      case measure => omega
      case rel => exact ⟨i + 1, by go_num, by rw [HS.out], Nat.le_refl _, by omega, rfl⟩
    · have d1 : decide ((i : Int) < (l.length : Int)) = false := by simp; omega
      have hq : l.take i = l := List.take_of_length_le (by omega)
      rw [hq]
      have hsl := sumF_lt l
      generalize hss : sumF l = s at hsl ⊢
      have Hss := hide hss
      clear hss
      go_wp2_with fail
      have h24 : s / 16777216 % 256 = s / 16777216 := by omega
      refine bodyPost_ret (v := .agg #[.int .u8 (s / 16777216), .int .u8 (s / 65536 % 256), .int .u8 (s / 256 % 256), .int .u8 (s % 256)]) ?_ rfl ?_
      · rw [results_cell1 rfl]; simp [go_sem]
      rw [Hss.out, h24]
      exact ⟨rfl, (Below.refl _ _).alloc (Nat.le_refl _) _⟩

theorem step_append_b {P : Program} {w : World} {ops : Array Oper} {o : Oper} {a : Act} {K : Act → World → Prop} {Q : Exit → Act → World → Prop} {E : Prop} (hgd : o.guard = none) (s x : Operand) (t : TypeId)
    (ho : o.op = .call { callee := .builtin .append, args := #[s, x], argTypes := #[t, t] }) (base : Nat) (ht : P.underlying t = some (.slice 5)) (hinfo : (P.info? 5).map (fun i => (i.zero, i.size, i.bytes)) = some (some (.int .u8 0), 1, 1))
    (lv : Value) (l : List Int) (hs : a.eval s = lv) (h : BRow base w lv l) (b off c : Nat) (y : List Int) (hx : a.eval x = .slice (some ⟨b, off, none⟩) y.length c) (hnews : RowAt w b off (byteV y)) (hbytes : l.length + y.length ≤ 140737488355328) (hbase : base ≤ w.heap.size)
    (hK : ∀ v' w', Hid (BRow base w' v' (l ++ y)) → Hid (w.grownBy w' lv.ownBlock) → Hid (v'.ownBlock = lv.ownBlock ∨ v'.ownBlock = some w.heap.size) → K (a.put o.dst v') w') :
    if Region.wanted o (yielded ops a.tmps) = true then Oper.wp P o a w K Q else E := by
  have hw : Region.wanted o (yielded ops a.tmps) = true := by simp [Region.wanted, hgd]
  rw [if_pos hw]
  obtain ⟨i, hi, hz, hsz, hby⟩ := info_parts hinfo
  obtain ⟨v', w', hr, h2, h3, h4⟩ := run_append_b (P := P) base t o.type ht i hi hz hsz hby lv l h ⟨b, off, none⟩ c y (fun j u hu => by rw [Addr.add_lit]; exact hnews j u hu) hbytes hbase
  unfold Oper.wp
  simp [execOp, ho, resolve, invoke, builtin, hs, hx, hr, Result.andThen]
  exact hK v' w' h2 h3 h4

theorem sumB_len (l : List Int) : (sumB l).length = 4 := rfl
theorem sumB_bytes (l : List Int) : ∀ b ∈ sumB l, 0 ≤ b ∧ b < 256 := by
  have := sumF_lt l
  intro b hb
  simp only [sumB, List.mem_cons, List.not_mem_nil, or_false] at hb
  rcases hb with rfl | rfl | rfl | rfl <;> omega

set_option maxRecDepth 100000 in
set_option maxHeartbeats 4000000 in
theorem end_any (base wb : Nat) (lv : Value) (l : List Int) (w : World) (h : WrP base w wb lv l) (hb : base ≤ w.heap.size) (hl : l.length ≤ 1000000) (hv : ∀ c ∈ l, 0 ≤ c ∧ c < 256) :
    Calls Try.prog 32 #[.pointer (some ⟨wb, 0, none⟩)] w fun e w' => ∃ v, e = .returned v ∧ Only (fun b => some b = lv.ownBlock) w w' ∧ BRow base w' v (l ++ sumB l) := by
  have hc := h.cell
  obtain ⟨g, cap, rfl, hg1, hg2, hrow⟩ := h.row.row
  have H := hide h
  have Hrow := hide hrow
  have hwl := lt_of_cell hc
  have HS := hide (sum_any w g 0 cap l hrow (by omega) hv)
  clear h hrow hv
  go_enter Try.func32, Try.ntmps32
  go_wp2_with fail
  refine HS.out.mono ?_
  rintro e w1 ⟨rfl, hb1⟩
  have hc1 := below_at hb1 hc hwl
  have hz1 := hb1.size
  have HB1 := hide hb1
  have H1 := hide (H.out.row.keep (Only.new (S := fun _ => False) hb1) (by simp))
  have HsB : Hid (sumB l = [sumF l / 16777216 % 256, sumF l / 65536 % 256, sumF l / 256 % 256, sumF l % 256]) := by show _ = _; rfl
  generalize sumF l / 16777216 % 256 = z0 at HsB ⊢
  generalize sumF l / 65536 % 256 = z1 at HsB ⊢
  generalize sumF l / 256 % 256 = z2 at HsB ⊢
  generalize sumF l % 256 = z3 at HsB ⊢
  clear hb1 HS
  go_wp2_with fail
  obtain ⟨W2, hW2⟩ : ∃ W2, W2 = w1.alloc (.cells #[.int .u8 z0, .int .u8 z1, .int .u8 z2, .int .u8 z3] 115) := ⟨_, rfl⟩
  have hb2 : Below w1.heap.size w1 W2 := by rw [hW2]; exact (Below.refl _ _).alloc (Nat.le_refl _) _
  have hz2 : W2.heap.size = w1.heap.size + 1 := by rw [hW2]; simp
  have HR2 : Hid (RowAt W2.drew w1.heap.size 0 (byteV [z0, z1, z2, z3])) := by
    intro j v hv
    rw [hW2, Nat.zero_add]
    match j, hv with
    | 0, hv => simp [byteV] at hv; subst hv; simp [go_sem]
    | 1, hv => simp [byteV] at hv; subst hv; simp [go_sem]
    | 2, hv => simp [byteV] at hv; subst hv; simp [go_sem]
    | 3, hv => simp [byteV] at hv; subst hv; simp [go_sem]
    | j + 4, hv => simp [byteV] at hv
  have c2 := below_at hb2 hc1 (by omega)
  have HB2 : Hid (Below w.heap.size w W2) := HB1.out.trans (hb2.mono (by omega))
  have H2 : Hid (BRow base W2.drew (.slice (some ⟨g, 0, none⟩) l.length cap) l) := (H1.out.keep (Only.new (S := fun _ => False) hb2) (by simp)).keep (Only.new (S := fun _ => False) (Below.refl _ _).drew) (by simp)
  have hne : ¬ some wb = (Value.slice (some ⟨g, 0, none⟩) l.length cap).ownBlock := H.out.sep
  have Hne := hide hne
  rw [← hW2]
  clear hW2 hb2 hc hc1 hne
  go_region_held3 (fun W' => W'.cell? ⟨wb, 0, none⟩ = some (.slice (some ⟨g, 0, none⟩) l.length cap))
    (first | exact c2 | exact c3)
    (first | (refine step_append_b rfl (.tmp 12) (.tmp 13) 46 rfl base Try.underlying46 Try.infoU8 _ l rfl H2.out w1.heap.size 0 4 [z0, z1, z2, z3] rfl HR2.out (by simp; omega) (show base ≤ W2.heap.size by omega) ?_; intro v4 w4 hown4 hgr4 hwh4; (have ho4 : Only (fun b => some b = (Value.slice (some ⟨g, 0, none⟩) l.length cap).ownBlock) W2.drew w4 := only_of_grown hgr4.out); (have c3 := ho4.at (w := W2.drew) c2 Hne.out)))
  have hO : Only (fun b => some b = (Value.slice (some ⟨g, 0, none⟩) l.length cap).ownBlock) w w4 := (Only.new HB2.out).trans ((Only.new (Below.refl _ _).drew).trans ho4)
  have HO := hide hO
  clear hO ho4 c3 c2
  go_wp2_with fail
  go_ret
  exact ⟨v4, rfl, HO.out, by rw [HsB.out]; exact hown4.out⟩
end Go.Proofs.Ytndlmgocldckfaa
