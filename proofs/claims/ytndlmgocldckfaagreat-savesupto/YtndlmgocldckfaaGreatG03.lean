import Derived.Test.YtndlmgocldckfaaGreatG02
import Derived.Laws.CopyRow
import Derived.BigRegion
import Derived.BigQuiet
import Derived.Deep.QuietTactic
import Derived.Deep.LoopGhost
import Derived.RegionTactic
import Derived.Deep.RegionHeld3
namespace Go.Proofs.YtndlmgocldckfaaGreat
open Go.RowKit
set_option linter.unusedVariables false
set_option linter.unusedSimpArgs false
set_option maxRecDepth 100000
set_option maxHeartbeats 4000000
def byteV (l : List Int) : List Value := l.map (Value.int .u8)
theorem byteV_append (a b : List Int) : byteV (a ++ b) = byteV a ++ byteV b := by simp [byteV]
theorem byteV_length (a : List Int) : (byteV a).length = a.length := by simp [byteV]
theorem byteV_one (l : List Int) : ∀ u ∈ byteV l, u.oneCell' = true := by
 intro v hv; simp [byteV] at hv; obtain ⟨x, _, rfl⟩ := hv; rfl
theorem Tryz.infoU8 : (Tryz.prog.info? 5).map (fun i => (i.zero, i.size, i.bytes)) = some (some (.int .u8 0), 1, 1) := by kernel_rfl
def Clear (fz : Nat × Nat) (n : Nat) : Prop := ∀ i, i < n → ¬ (fz.1 ≤ i ∧ i < fz.2)
theorem run_storeCells_clear {P : Program} (g o : Nat) (t : TypeId) (fz : Nat × Nat) : ∀ (vs : List Value) (i : Nat) (cur : Array Value) (w : World), w.heap[g]? = some (.cells cur t fz) → Clear fz cur.size → o + i + vs.length ≤ cur.size → (∀ v ∈ vs, v.oneCell' = true) →
  (storeCells ⟨g, o, none⟩ vs i).run P w = .ok () (w.setRow g (cur.toList.take (o + i) ++ vs ++ cur.toList.drop (o + i + vs.length)).toArray)
 | [], i, cur, w, hg, _, _, _ => by
  simp only [storeCells, List.append_nil, List.length_nil, Nat.add_zero, List.take_append_drop, Array.toArray_toList]
  rw [setRow_self w g cur t fz hg]
  rfl
 | v :: rest, i, cur, w, hg, hz, hl, h1 => by
  have hi : o + i < cur.size := by simp at hl; omega
  have hadd : (⟨g, o, none⟩ : Addr).add i = ⟨g, o + i, none⟩ := by unfold Addr.add; split <;> simp_all
  have hcell : w.cell? ⟨g, o + i, none⟩ = some cur[o + i] := by simp [World.cell?, hg, hi]
  have hfro : w.frozen? ⟨g, o + i, none⟩ = false := by
   obtain ⟨lo, hi'⟩ := fz
   have := hz (o + i) hi
   simp only [World.frozen?, hg]
   simp only [Bool.and_eq_false_iff, decide_eq_false_iff_not]
   simp only at this
   omega
  have hst : (store ((⟨g, o, none⟩ : Addr).add i) v).run P w = .ok () (w.setRow g (cur.setIfInBounds (o + i) v)) := by
   rw [hadd, run_store P w _ v _ (h1 v (by simp)), hcell]
   simp [hfro, setCell_eq_setRow w g (o + i) cur t fz v hg]
  have ih := run_storeCells_clear (P := P) g o t fz rest (i + 1) (cur.setIfInBounds (o + i) v) (w.setRow g (cur.setIfInBounds (o + i) v)) (setRow_heap w g cur _ t _ hg) (by simpa using hz) (by simp at hl ⊢; omega) (fun x hx => h1 x (by simp [hx]))
  simp only [storeCells, Sem.run_bind, hst, Result.andThen_ok, ih, setRow_setRow]
  congr 3
  have e := list_seg_step cur.toList (o + i) v rest (by simp at hl ⊢; omega)
  simpa [Array.toList_setIfInBounds, Nat.add_assoc] using e
def BRow (base : Nat) (w : World) (lv : Value) (l : List Int) : Prop :=
 ∃ g cap cur fz, lv = .slice (some ⟨g, 0, none⟩) l.length cap ∧ base ≤ g ∧ w.heap[g]? = some (.cells cur 5 fz) ∧ Clear fz cur.size ∧ l.length ≤ cap ∧ cap ≤ maxLen ∧ cur.size = cap ∧ cur.toList.take l.length = byteV l
theorem BRow.row {base : Nat} {w : World} {lv : Value} {l : List Int} (h : BRow base w lv l) : ∃ g cap, lv = .slice (some ⟨g, 0, none⟩) l.length cap ∧ base ≤ g ∧ g < w.heap.size ∧ RowAt w g 0 (byteV l) := by
 obtain ⟨g, cap, cur, fz, rfl, hb, hg, hz, h1, h2, h3, h4⟩ := h
 refine ⟨g, cap, rfl, hb, (Array.getElem?_eq_some_iff.1 hg).1, fun j v hv => ?_⟩
 have hj : j < l.length := by have := (List.getElem?_eq_some_iff.1 hv).1; simpa [byteV] using this
 rw [← h4, List.getElem?_take, if_pos hj] at hv
 simp only [World.cell?, hg, Nat.zero_add]
 simpa using hv
theorem BRow.keep {base : Nat} {w w' : World} {lv : Value} {l : List Int} {U : Nat → Prop} (h : BRow base w lv l) (ho : Only U w w') (hU : ∀ b, some b = lv.ownBlock → ¬ U b) : BRow base w' lv l := by
 obtain ⟨g, cap, cur, fz, rfl, hb, hg, r⟩ := h
 have hl := (Array.getElem?_eq_some_iff.1 hg).1
 exact ⟨g, cap, cur, fz, rfl, hb, (ho.block g hl (hU g rfl)).trans hg, r⟩
theorem BRow.lt {base : Nat} {w : World} {lv : Value} {l : List Int} (h : BRow base w lv l) : ∀ b, some b = lv.ownBlock → base ≤ b ∧ b < w.heap.size := by
 obtain ⟨g, cap, rfl, h1, h2, _⟩ := h.row
 intro b hb
 simp [Value.ownBlock] at hb
 omega
theorem BRow.form {base : Nat} {w : World} {lv : Value} {l : List Int} (h : BRow base w lv l) : ∃ g cap, lv = .slice (some ⟨g, 0, none⟩) l.length cap := by
 obtain ⟨g, cap, _, _, rfl, _⟩ := h; exact ⟨g, cap, rfl⟩
theorem BRow.mono {base base' : Nat} {w : World} {lv : Value} {l : List Int} (h : BRow base w lv l) (hb : base' ≤ base) : BRow base' w lv l := by
 obtain ⟨g, cap, cur, fz, rfl, h1, r⟩ := h
 exact ⟨g, cap, cur, fz, rfl, by omega, r⟩
theorem run_append_b {P : Program} {w : World} (base : Nat) (t ty : TypeId) (ht : P.underlying t = some (.slice 5)) (i : TypeInfo) (hi : P.info? 5 = some i) (hz : i.zero = some (.int .u8 0)) (hs : i.size = 1) (hby : i.bytes = 1)
  (lv : Value) (l : List Int) (h : BRow base w lv l) (a : Addr) (c : Nat) (x : List Int) (hnews : ∀ j u, (byteV x)[j]? = some u → w.cell? (a.add j) = some u) (hbytes : l.length + x.length ≤ 140737488355328) (hbase : base ≤ w.heap.size) :
  ∃ v' w', (Builtin.append_ #[t, t] ty #[lv, .slice (some a) x.length c]).run P w = .ok v' w' ∧ BRow base w' v' (l ++ x) ∧ w.grownBy w' lv.ownBlock ∧ (v'.ownBlock = lv.ownBlock ∨ v'.ownBlock = some w.heap.size) := by
 have hrow := h.row
 obtain ⟨g, cap, cur, fz, rfl, hb, hg, hcl, h1, h2, h3, h4⟩ := h
 have hl : (byteV x).length = x.length * i.size := by simp [byteV, hs]
 by_cases hroom : l.length + x.length ≤ cap
 ·have hf := run_firstCells_some (P := P) w i.size x.length a x.length c (byteV x) hl hnews
  have hst := run_storeCells_clear (P := P) g (l.length * i.size) 5 fz (byteV x) 0 cur w hg hcl (by rw [hs, byteV_length]; omega) (byteV_one x)
  simp only [Nat.add_zero] at hst
  have hr : (Builtin.append_ #[t, t] ty #[.slice (some ⟨g, 0, none⟩) l.length cap, .slice (some a) x.length c]).run P w = .ok (.slice (some ⟨g, 0, none⟩) (l.length + x.length) cap) (w.setRow g (cur.toList.take (l.length * i.size) ++ byteV x ++ cur.toList.drop (l.length * i.size + (byteV x).length)).toArray) := by
   simp [Builtin.append_, run_underlying ht, sizeOf, typeInfo, hi, Builtin.lenOf, hroom, hf, Addr.add_lit, hst]
  refine ⟨_, _, hr, ?_, ⟨rfl, rfl, rfl, by simp [World.setRow], fun k _ hk => setRow_other w g k _ (fun e => hk (by simp [Value.ownBlock, e]))⟩, .inl rfl⟩
  refine ⟨g, cap, _, fz, by simp, hb, setRow_heap w g cur _ _ _ hg, ?_, by simp; omega, h2, ?_, ?_⟩
  ·simp only [hs, Nat.mul_one, List.size_toArray, List.length_append, List.length_take, List.length_drop, Array.length_toList, byteV_length]
   rw [show min l.length cur.size + x.length + (cur.size - (l.length + x.length)) = cur.size by omega]
   exact hcl
  ·simp only [hs, Nat.mul_one, List.size_toArray, List.length_append, List.length_take, List.length_drop, Array.length_toList, byteV_length]
   omega
  ·simp only [hs, Nat.mul_one, h4]
   rw [byteV_append, show (l ++ x).length = (byteV l ++ byteV x).length by simp [byteV]]
   exact List.take_left
 ·obtain ⟨g', cap', he, _, _, hrw⟩ := hrow
  simp only [Value.slice.injEq, Option.some.injEq, Addr.mk.injEq] at he
  obtain ⟨⟨rfl, _⟩, _, rfl⟩ := he
  have holds : ∀ (j : Nat) u, (byteV l)[j]? = some u → w.cell? ((⟨g, 0, none⟩ : Addr).add j) = some u := fun j u hu => by rw [Addr.add_lit]; exact hrw j u hu
  have hr := run_append_grow (P := P) w t ty 5 i (.int .u8 0) ht hi hz ⟨g, 0, none⟩ l.length cap (byteV l) (by simp [byteV, hs]) holds a x.length c (byteV x) hl hnews (by omega) (by omega) (growslice_fits (by omega) (by rw [hby]; omega))
  refine ⟨_, _, hr, ?_, ⟨rfl, rfl, rfl, by simp, fun k hk _ => heap_alloc_old w.drew _ hk⟩, .inr rfl⟩
  have hge := grownCap_ge w (l.length + x.length) cap 5
  have hcm : grownCap w (l.length + x.length) cap 5 ≤ maxLen := grownCap_le_maxLen w (l.length + x.length) cap 5 (by simp only [maxLen]; omega)
  refine ⟨w.heap.size, _, _, (0, 0), by simp, hbase, heap_alloc_new w.drew _, by intro i hi; simp, by simp; omega, hcm, ?_, ?_⟩
  ·simp only [Array.size_append, List.size_toArray, size_zeroCells, byteV_length]
   simp [Value.cells]
   omega
  ·simp only [Array.toList_append]
   rw [byteV_append, show (l ++ x).length = (byteV l ++ byteV x).length by simp [byteV]]
   exact List.take_left
theorem wpList_append_b {P : Program} {w : World} {ops : Array Oper} {rest : List Oper} {o : Oper} {a : Act} {Q : Exit → Act → World → Prop} (hgd : o.guard = none) (s x : Operand) (t : TypeId)
  (ho : o.op = .call { callee := .builtin .append, args := #[s, x], argTypes := #[t, t] }) (base : Nat) (ht : P.underlying t = some (.slice 5)) (hinfo : (P.info? 5).map (fun i => (i.zero, i.size, i.bytes)) = some (some (.int .u8 0), 1, 1))
  (lv : Value) (l : List Int) (hs : a.eval s = lv) (h : BRow base w lv l) (b off c : Nat) (y : List Int) (hx : a.eval x = .slice (some ⟨b, off, none⟩) y.length c) (hnews : RowAt w b off (byteV y)) (hbytes : l.length + y.length ≤ 140737488355328) (hbase : base ≤ w.heap.size)
  (hK : ∀ v' w', Hid (BRow base w' v' (l ++ y)) → Hid (w.grownBy w' lv.ownBlock) → Hid (v'.ownBlock = lv.ownBlock ∨ v'.ownBlock = some w.heap.size) → wpList P ops Q rest (a.put o.dst v') w') : wpList P ops Q (o :: rest) a w := by
 obtain ⟨i, hi, hz, hsz, hby⟩ := info_parts hinfo
 obtain ⟨v', w', hr, h2, h3, h4⟩ := run_append_b (P := P) base t o.type ht i hi hz hsz hby lv l h ⟨b, off, none⟩ c y (fun j u hu => by rw [Addr.add_lit]; exact hnews j u hu) hbytes hbase
 refine wpList_plain hgd fun K hK' => ?_
 unfold Oper.wp
 simp [execOp, ho, resolve, invoke, builtin, hs, hx, hr, Result.andThen]
 exact hK' _ _ (hK v' w' h2 h3 h4)
def numF : Nat → Int → List Int
 | 0, n => [n]
 | k + 1, n => if 127 < n then (n % 128 + 128) :: numF k (n / 128) else [n]
def numB (n : Int) : List Int := numF 9 n
def sgnI (n : Int) : Int := if n < 0 then -2 * n - 1 else 2 * n
def sgnB (n : Int) : List Int := numB (sgnI n)
structure WrP (base : Nat) (w : World) (wb : Nat) (lv : Value) (l : List Int) : Prop where
 cell : w.cell? ⟨wb, 0, none⟩ = some lv
 room : Room w wb 1
 row : BRow base w lv l
 sep : ¬ some wb = lv.ownBlock
def WSet (wb : Nat) (lv : Value) (b : Nat) : Prop := b = wb ∨ some b = lv.ownBlock
def MovedV (w : World) (lv lv' : Value) : Prop := lv'.ownBlock = lv.ownBlock ∨ ∃ g, lv'.ownBlock = some g ∧ w.heap.size ≤ g
theorem owns_form1 {w : World} {base : Nat} {e : TypeId} {size : Nat} {v : Value} {n : Nat} {xs : List Value} (h : w.ownsRow base e size v n xs) : ∃ sa sc, v = .slice sa n sc := by
 rcases owns_row h with ⟨rfl, rfl, _⟩ | ⟨g, cap, rfl, _⟩
 ·exact ⟨_, _, rfl⟩
 ·exact ⟨_, _, rfl⟩
theorem only_of_grown {w w' : World} {row : Option Nat} (h : w.grownBy w' row) : Only (fun b => some b = row) w w' := ⟨h.os, h.tape, h.output, h.size, fun k hk hn => h.block k hk hn⟩
theorem Only.chain {S T : Nat → Prop} {a b c : World} (h : Only S a b) (k : Only T b c) (ht : ∀ i, i < a.heap.size → T i → S i) : Only S a c :=
 ⟨k.os.trans h.os, k.tape.trans h.tape, k.output.trans h.output, Nat.le_trans h.size k.size, fun i hi hs => (k.block i (Nat.lt_of_lt_of_le hi h.size) (fun x => hs (ht i hi x))).trans (h.block i hi hs)⟩
theorem owns_keep {w w' : World} {base : Nat} {e : TypeId} {size : Nat} {v : Value} {n : Nat} {xs : List Value} {U : Nat → Prop} (h : w.ownsRow base e size v n xs) (ho : Only U w w') (hU : ∀ b, some b = v.ownBlock → ¬ U b) : w'.ownsRow base e size v n xs := by
 obtain ⟨h1, h2⟩ := h
 refine ⟨h1, ?_⟩
 rcases h2 with h2 | ⟨g, cap, cur, rfl, hg, hc, r⟩
 ·exact .inl h2
 ·have hl := (Array.getElem?_eq_some_iff.1 hc).1
  exact .inr ⟨g, cap, cur, rfl, hg, (ho.block g hl (hU g rfl)).trans hc, r⟩
theorem numF_bytes : ∀ (k : Nat) (n : Int), 0 ≤ n → n < 128 ^ (k + 1) → ∀ b ∈ numF k n, 0 ≤ b ∧ b < 256
 | 0, n, h0, h1, b, hb => by simp [numF] at hb; subst hb; simp at h1; omega
 | k + 1, n, h0, h1, b, hb => by
  rw [numF] at hb
  split at hb
  ·rcases List.mem_cons.1 hb with rfl | hb
   ·omega
   ·refine numF_bytes k (n / 128) (by omega) ?_ b hb
    rw [Int.pow_succ] at h1
    omega
  ·simp at hb; subst hb; omega
theorem numF_len : ∀ (k : Nat) (n : Int), (numF k n).length ≤ k + 1
 | 0, n => by simp [numF]
 | k + 1, n => by
  rw [numF]
  split
  ·have := numF_len k (n / 128)
   simp; omega
  ·simp
structure NumR (base : Nat) (w wr : World) (wb : Nat) (lv0 lv : Value) (l : List Int) : Prop where
 only : Only (WSet wb lv0) w wr
 moved : MovedV w lv0 lv
 wr : WrP base wr wb lv l
theorem NumR.step {base : Nat} {w wr w2 : World} {wb : Nat} {lv0 lv lv2 : Value} {l : List Int} {x : Int} {o1 : Obj} (h : NumR base w wr wb lv0 lv l) (hb : base ≤ w.heap.size) (hg : (wr.alloc o1).grownBy w2 lv.ownBlock) (hown : BRow base w2 lv2 (l ++ [x]))
  (hwh : lv2.ownBlock = lv.ownBlock ∨ lv2.ownBlock = some (wr.heap.size + 1)) : NumR base w (w2.setCell ⟨wb, 0, none⟩ lv2) wb lv0 lv2 (l ++ [x]) := by
 have hz := h.only.size
 have hwl := lt_of_cell h.wr.cell
 have hbA : Below wr.heap.size wr (wr.alloc o1) := (Below.refl _ _).alloc (Nat.le_refl _) _
 have hO : Only (fun b => some b = lv.ownBlock) wr w2 := (Only.new hbA).trans (only_of_grown hg)
 have hOs : Only (· = wb) w2 (w2.setCell ⟨wb, 0, none⟩ lv2) := Only.setCell (S := (· = wb)) (Only.refl _ _) (p := ⟨wb, 0, none⟩) rfl _
 have hr2 : Room w2 wb 1 := h.wr.room.only hO h.wr.sep
 have hsep2 : ¬ some wb = lv2.ownBlock := by
  rcases hwh with e | e
  ·rw [e]; exact h.wr.sep
  ·rw [e]; intro hc; simp at hc; omega
 have hmv : MovedV w lv0 lv2 := by
  rcases hwh with e | e
  ·rcases h.moved with e' | ⟨g, e', hg'⟩
   ·exact .inl (e.trans e')
   ·exact .inr ⟨g, e.trans e', hg'⟩
  ·exact .inr ⟨_, e, by omega⟩
 refine ⟨?_, hmv, ⟨World.cell?_setCell_same' _ _ _ (hr2 0 (by omega)).1, hr2.setCell _ _, ?_, hsep2⟩⟩
 ·refine (h.only.chain hO ?_).chain hOs (fun k _ hk => .inl hk)
  intro k hk hc
  rcases h.moved with e' | ⟨g, e', hg'⟩
  ·exact .inr (hc.trans e')
  ·rw [e'] at hc; simp at hc; omega
 ·exact hown.keep hOs (fun b hb hc => hsep2 (by rw [← hc]; exact hb))
theorem byteOf (n : Int) (h0 : 0 ≤ n) (h1 : n < 256) : IntKind.u8.wrap n = n := by
 simp [IntKind.wrap, IntKind.bits, IntKind.signed]
 omega
theorem row_one (w : World) (v : Value) (T : TypeId) : RowAt (w.alloc (.cells #[v] T)) w.heap.size 0 [v] := by
 intro j u hu
 have hj : j < 1 := by have := (List.getElem?_eq_some_iff.1 hu).1; simpa using this
 obtain rfl : j = 0 := by omega
 simp at hu
 subst hu
 rw [World.cell?_alloc_at _ _ _ _ rfl]; rfl
theorem number_any (base wb : Nat) (lv : Value) (l : List Int) (n : Int) (w : World) (h : WrP base w wb lv l) (hb : base ≤ w.heap.size) (hl : l.length ≤ 1000000) (hn : 0 ≤ n ∧ n ≤ 9223372036854775807) :
  Calls Tryz.prog 110 #[.pointer (some ⟨wb, 0, none⟩), .int .i64 n] w fun e w' => e = .returned (.tuple #[]) ∧ ∃ lv', NumR base w w' wb lv lv' (l ++ numB n) := by
 have H := hide h
 clear h
 go_enter Tryz.func110, Tryz.ntmps110
 go_wp2_with fail
 go_loopg [1] 11 (fun g s1 wr => ∃ (f : Nat) (m : Int) (lv2 : Value) (ld : List Int), s1 = .int .i64 m ∧ f + 1 ≤ g ∧ f ≤ 9 ∧ 0 ≤ m ∧ m ≤ 9223372036854775807 ∧ ld.length + f = l.length + 9 ∧ Hid (m < 128 ^ (f + 1) ∧ NumR base w wr wb lv lv2 ld ∧ ld ++ numF f m = l ++ numB n))
 case atStart => exact ⟨9, n, lv, l, rfl, by omega, by omega, hn.1, hn.2, by omega, by simp; omega, ⟨Only.refl _ _, .inl rfl, H.out⟩, rfl⟩
 case round =>
  obtain ⟨f, m, lv2, ld, rfl, hg, hf, hm0, hm1, hdl, hI⟩ := hrel
  have hc := hI.out.2.1.wr.cell
  have hfz := (hI.out.2.1.wr.room 0 (by omega)).2
  have hzr := hI.out.2.1.only.size
  have hrow := hide hI.out.2.1.wr.row
  have hsep := hide hI.out.2.1.wr.sep
  by_cases h127 : 127 < m
  ·obtain ⟨f', rfl⟩ : ∃ f', f = f' + 1 := by
    rcases f with _ | f'
    ·have := hI.out.1; simp at this; omega
    ·exact ⟨f', rfl⟩
   have d1 : decide (127 < m) = true := by simpa using h127
   have hr : m.tmod 128 = m % 128 := Int.tmod_eq_emod_of_nonneg (by omega)
   have hq : m.tdiv 128 = m / 128 := Int.tdiv_eq_ediv_of_nonneg (by omega)
   have w1 : IntKind.i64.wrap (m % 128) = m % 128 := by rw [IntKind.wrap_i64]; omega
   have w2 : IntKind.i64.wrap (m % 128 + 128) = m % 128 + 128 := by rw [IntKind.wrap_i64]; omega
   have w3 : IntKind.u8.wrap (m % 128 + 128) = m % 128 + 128 := byteOf _ (by omega) (by omega)
   have w4 : IntKind.i64.wrap (m / 128) = m / 128 := by rw [IntKind.wrap_i64]; omega
   go_wp2_with (at_builtin; refine wpList_append_b rfl (.tmp 10) (.tmp 15) 56 rfl base Tryz.underlying56 Tryz.infoU8 _ ld rfl (hrow.out.keep (Only.new (S := fun _ => False) ((Below.refl _ _).alloc (Nat.le_refl _) _)) (by simp)) _ 0 _ [m % 128 + 128] rfl ?_ (by simp; omega) (by simp; omega) ?_)
   ·exact row_one _ _ _
   intro v5 w5 hown5 hgr5 hwh5
   have hS := hide (hI.out.2.1.step hb hgr5.out hown5.out hwh5.out)
   have hbA : Below wr.heap.size wr (wr.alloc (.cells #[.int .u8 (m % 128 + 128)] 5)) := (Below.refl _ _).alloc (Nat.le_refl _) _
   have hO : Only (fun b => some b = lv2.ownBlock) wr w5 := (Only.new hbA).trans (only_of_grown hgr5.out)
   have hc5 := hO.at hc hsep.out
   have hf5 := ((hI.out.2.1.wr.room.only hO hsep.out) 0 (by omega)).2
   obtain ⟨sa5, sc5, rfl⟩ := hown5.out.form
   have hS2 := hS.out
   simp only [List.length_append, List.length_cons, List.length_nil, Nat.zero_add] at hS2
   have HS2 := hide hS2
   clear hS2 hS
   clear hbA hO hc hfz
   go_wp2_with fail
   go_roundg (f' + 1)
   case measure => omega
   case rel =>
    refine ⟨f', m / 128, _, ld ++ [m % 128 + 128], rfl, by omega, by omega, by omega, by omega, by simp; omega, ?_, HS2.out, ?_⟩
    ·have := hI.out.1
     rw [Int.pow_succ] at this
     omega
    ·have := hI.out.2.2
     rw [numF, if_pos h127] at this
     rw [← this]; simp
  ·have d1 : decide (127 < m) = false := by simpa using h127
   have w3 : IntKind.u8.wrap m = m := byteOf _ (by omega) (by omega)
   go_wp2_with (at_builtin; refine wpList_append_b rfl (.tmp 25) (.tmp 28) 56 rfl base Tryz.underlying56 Tryz.infoU8 _ ld rfl (hrow.out.keep (Only.new (S := fun _ => False) ((Below.refl _ _).alloc (Nat.le_refl _) _)) (by simp)) _ 0 _ [m] rfl ?_ (by simp; omega) (by simp; omega) ?_)
   ·exact row_one _ _ _
   intro v5 w5 hown5 hgr5 hwh5
   have hS := hide (hI.out.2.1.step hb hgr5.out hown5.out hwh5.out)
   have hbA : Below wr.heap.size wr (wr.alloc (.cells #[.int .u8 m] 5)) := (Below.refl _ _).alloc (Nat.le_refl _) _
   have hO : Only (fun b => some b = lv2.ownBlock) wr w5 := (Only.new hbA).trans (only_of_grown hgr5.out)
   have hc5 := hO.at hc hsep.out
   have hf5 := ((hI.out.2.1.wr.room.only hO hsep.out) 0 (by omega)).2
   obtain ⟨sa5, sc5, rfl⟩ := hown5.out.form
   have hS2 := hS.out
   simp only [List.length_append, List.length_cons, List.length_nil, Nat.zero_add] at hS2
   have HS2 := hide hS2
   clear hS2 hS
   clear hbA hO hc hfz
   go_wp2_with fail
   go_end0
   have hfin : ld ++ [m] = l ++ numB n := by
    have := hI.out.2.2
    rcases f with _ | f'
    ·exact this
    ·rw [numF, if_neg (by omega)] at this; exact this
   exact ⟨rfl, _, by rw [← hfin]; exact HS2.out⟩
theorem NumR.trans {base : Nat} {w w1 w2 : World} {wb : Nat} {lv lv1 lv2 : Value} {l l2 : List Int} (h : NumR base w w1 wb lv lv1 l) (k : NumR base w1 w2 wb lv1 lv2 l2) : NumR base w w2 wb lv lv2 l2 := by
 have hz := h.only.size
 refine ⟨h.only.chain k.only ?_, ?_, k.wr⟩
 ·rintro i hi (hc | hc)
  ·exact .inl hc
  ·rcases h.moved with e | ⟨g, e, hg⟩
   ·exact .inr (hc.trans e)
   ·rw [e] at hc; simp at hc; omega
 ·rcases k.moved with e | ⟨g, e, hg⟩
  ·rcases h.moved with e' | ⟨g', e', hg'⟩
   ·exact .inl (e.trans e')
   ·exact .inr ⟨g', e.trans e', hg'⟩
  ·exact .inr ⟨g, e, by omega⟩
theorem numB_len (n : Int) : (numB n).length ≤ 10 := numF_len 9 n
theorem signed_any (base wb : Nat) (lv : Value) (l : List Int) (n : Int) (w : World) (h : WrP base w wb lv l) (hb : base ≤ w.heap.size) (hl : l.length ≤ 1000000) (hn : -1000000000 ≤ n ∧ n ≤ 1000000000) :
  Calls Tryz.prog 111 #[.pointer (some ⟨wb, 0, none⟩), .int .i64 n] w fun e w' => e = .returned (.tuple #[]) ∧ ∃ lv', NumR base w w' wb lv lv' (l ++ sgnB n) := by
 have H := hide h
 clear h
 by_cases h0 : n < 0
 ·have d1 : decide (n < 0) = true := by simpa using h0
  have w1 : IntKind.i64.wrap (-2 * n) = -2 * n := by rw [IntKind.wrap_i64]; omega
  have w2 : IntKind.i64.wrap (-2 * n - 1) = -2 * n - 1 := by rw [IntKind.wrap_i64]; omega
  have hs : sgnB n = numB (-2 * n - 1) := by simp [sgnB, sgnI, h0]
  go_enter Tryz.func111, Tryz.ntmps111
  go_wp2_with fail
  refine (number_any base wb lv l _ w H.out hb hl (by omega)).mono ?_
  rintro e w1 ⟨rfl, lv', hN⟩
  go_wp2_with fail
  go_end0
  exact ⟨rfl, lv', hs ▸ hN⟩
 ·have d1 : decide (n < 0) = false := by simpa using h0
  have w1 : IntKind.i64.wrap (2 * n) = 2 * n := by rw [IntKind.wrap_i64]; omega
  have hs : sgnB n = numB (2 * n) := by simp [sgnB, sgnI, h0]
  go_enter Tryz.func111, Tryz.ntmps111
  go_wp2_with fail
  refine (number_any base wb lv l _ w H.out hb hl (by omega)).mono ?_
  rintro e w1 ⟨rfl, lv', hN⟩
  go_wp2_with fail
  go_end0
  exact ⟨rfl, lv', hs ▸ hN⟩
def AllSet (av : Value) (L : List RecC) (b : Nat) : Prop := some b = av.ownBlock ∨ ∃ x ∈ L, some b = (Value.slice x.sa x.n x.sc).ownBlock
structure AllR (w : World) (Z : Nat) (av : Value) (L : List RecC) (rs : List Rec) : Prop where
 len : L.length = rs.length
 row : w.ownsRow Z 46 5 av L.length (recCells L)
 rec_ : ∀ (j : Nat) x r, L[j]? = some x → rs[j]? = some r → x.e = r.e ∧ x.n = r.told.length ∧ w.ownsRow Z 3 1 (.slice x.sa x.n x.sc) r.told.length (ints r.told)
 tsep : ∀ x ∈ L, ∀ b, some b = (Value.slice x.sa x.n x.sc).ownBlock → some b ≠ av.ownBlock
theorem AllR.lt {w : World} {Z : Nat} {av : Value} {L : List RecC} {rs : List Rec} (h : AllR w Z av L rs) : ∀ b, AllSet av L b → Z ≤ b ∧ b < w.heap.size := by
 rintro b (hb | ⟨x, hx, hb⟩)
 ·exact h.row.lt b hb.symm
 ·obtain ⟨j, hj⟩ := List.getElem?_of_mem hx
  have hl : j < rs.length := by have := (List.getElem?_eq_some_iff.1 hj).1; have := h.len; omega
  obtain ⟨_, _, h3⟩ := h.rec_ j x rs[j] hj (List.getElem?_eq_getElem hl)
  exact h3.lt b hb.symm
theorem AllR.only {w w' : World} {Z : Nat} {av : Value} {L : List RecC} {rs : List Rec} {U : Nat → Prop} (h : AllR w Z av L rs) (ho : Only U w w') (hU : ∀ b, AllSet av L b → ¬ U b) : AllR w' Z av L rs := by
 refine ⟨h.len, owns_keep h.row ho (fun b hb => hU b (.inl hb)), fun j x r hx hr => ?_, h.tsep⟩
 obtain ⟨h1, h2, h3⟩ := h.rec_ j x r hx hr
 exact ⟨h1, h2, owns_keep h3 ho (fun b hb => hU b (.inr ⟨x, List.mem_of_getElem? hx, hb⟩))⟩
theorem AllR.nil (w : World) (Z : Nat) : AllR w Z (.slice none 0 0) [] [] :=
 ⟨rfl, World.ownsRow_nil _ _ _ _, by simp, by simp⟩
theorem recCells_one (L : List RecC) : ∀ u ∈ recCells L, u.oneCell' = true := by
 intro u hu
 obtain ⟨x, _, hx⟩ := List.mem_flatMap.1 hu
 simp only [RecC.cells, List.mem_cons, List.not_mem_nil, or_false] at hx
 rcases hx with rfl | rfl | rfl | rfl | rfl <;> rfl
theorem recCells_append (A B : List RecC) : recCells (A ++ B) = recCells A ++ recCells B := by simp [recCells]
theorem AllR.recIn {w : World} {Z : Nat} {av : Value} {L : List RecC} {rs : List Rec} (h : AllR w Z av L rs) : ∃ a cap, av = .slice a rs.length cap ∧ RecIn w a rs := by
 have hl := h.len
 rcases owns_row h.row with ⟨rfl, h0, _⟩ | ⟨g, cap, rfl, h1, h2, h3⟩
 ·have hr : rs = [] := List.eq_nil_of_length_eq_zero (by omega)
  subst hr
  exact ⟨none, 0, rfl, by intro i r hr; simp at hr⟩
 ·refine ⟨some ⟨g, 0, none⟩, cap, by rw [hl], ?_⟩
  intro i r hr
  have hi : i < L.length := by have := (List.getElem?_eq_some_iff.1 hr).1; omega
  have hx : L[i]? = some L[i] := List.getElem?_eq_getElem hi
  obtain ⟨e1, e2, e3⟩ := h.rec_ i _ r hx hr
  have hc : ∀ (j : Nat) v, j < 5 → (L[i].cells)[j]? = some v → w.cell? ⟨g, 0 + i * 5 + j, none⟩ = some v := by
   intro j v hj hv
   have := h3 (i * 5 + j) v (by rw [recCells_get L i j hj, hx]; exact hv)
   rw [Nat.add_assoc]; exact this
  refine ⟨g, 0, L[i].sa, L[i].sc, rfl, ?_, ?_, ?_, ?_, ?_, ?_⟩
  ·have := hc 0 _ (by omega) rfl; rw [← e1]; exact this
  ·have := hc 1 _ (by omega) rfl; rw [← e1]; exact this
  ·have := hc 2 _ (by omega) rfl; rw [← e1]; exact this
  ·have := hc 3 _ (by omega) rfl; rw [← e1]; exact this
  ·have := hc 4 _ (by omega) rfl; rw [← e2]; exact this
  ·intro k t ht
   rcases owns_row e3 with ⟨_, h0, _⟩ | ⟨g', cap', q1, _, _, q3⟩
   ·have := (List.getElem?_eq_some_iff.1 ht).1; omega
   ·simp only [Value.slice.injEq] at q1
    exact ⟨g', 0, q1.1, q3 k (.int .i64 t) (by simp [ints, ht])⟩
def ApartR (L : List RecC) : Prop := ∀ (j k : Nat) x y b, L[j]? = some x → L[k]? = some y → some b = (Value.slice x.sa x.n x.sc).ownBlock → some b = (Value.slice y.sa y.n y.sc).ownBlock → j = k
theorem AllR.snoc {w w' : World} {Z : Nat} {av av' : Value} {A : List RecC} {ra : List Rec} {x : RecC} {r : Rec} (h : AllR w Z av A ra) (he : x.e = r.e) (hn : x.n = r.told.length) (hx : w.ownsRow Z 3 1 (.slice x.sa x.n x.sc) r.told.length (ints r.told)) (hg : w.grownBy w' av.ownBlock) (hown : w'.ownsRow Z 46 5 av' (A.length + 1) (recCells A ++ x.cells)) (hwh : av'.ownBlock = av.ownBlock ∨ av'.ownBlock = some w.heap.size) (hdis : ∀ b, some b = (Value.slice x.sa x.n x.sc).ownBlock → some b ≠ av.ownBlock) : AllR w' Z av' (A ++ [x]) (ra ++ [r]) := by
 have ho : Only (fun b => some b = av.ownBlock) w w' := only_of_grown hg
 have hla := h.len
 refine ⟨by simp; omega, by rw [recCells_append, List.length_append]; simpa [recCells] using hown, fun j y q hy hq => ?_, ?_⟩
 ·by_cases hj : j < A.length
  ·rw [List.getElem?_append_left hj] at hy
   rw [List.getElem?_append_left (by omega)] at hq
   obtain ⟨h1, h2, h3⟩ := h.rec_ j y q hy hq
   exact ⟨h1, h2, owns_keep h3 ho (fun b hb hc => h.tsep y (List.mem_of_getElem? hy) b hb hc)⟩
  ·rw [List.getElem?_append_right (by omega)] at hy
   rw [List.getElem?_append_right (by omega)] at hq
   rw [← hla] at hq
   rcases hj0 : j - A.length with _ | m
   ·rw [hj0] at hy hq
    simp at hy hq
    subst hy hq
    exact ⟨he, hn, owns_keep hx ho (fun b hb hc => hdis b hb hc)⟩
   ·rw [hj0] at hy
    simp at hy
 ·intro y hy b hb
  rcases hwh with e | e
  ·rw [e]
   rcases List.mem_append.1 hy with hy | hy
   ·exact h.tsep y hy b hb
   ·simp at hy; subst hy; exact hdis b hb
  ·rw [e]
   intro hc
   simp at hc
   rcases List.mem_append.1 hy with hy | hy
   ·have := (h.lt b (.inr ⟨y, hy, hb⟩)).2; omega
   ·simp at hy; subst hy; have := (hx.lt b hb.symm).2; omega
theorem ApartR.snoc {w : World} {Z : Nat} {av : Value} {A : List RecC} {ra : List Rec} {x : RecC} (h : ApartR A) (hA : AllR w Z av A ra) (hx : ∀ b, some b = (Value.slice x.sa x.n x.sc).ownBlock → w.heap.size ≤ b) : ApartR (A ++ [x]) := by
 intro j k y z b hy hz hby hbz
 have hlt : ∀ (j : Nat) y, A[j]? = some y → some b = (Value.slice y.sa y.n y.sc).ownBlock → b < w.heap.size := fun j y hy hb => (hA.lt b (.inr ⟨y, List.mem_of_getElem? hy, hb⟩)).2
 have hlast : ∀ (j : Nat) y, ¬ j < A.length → (A ++ [x])[j]? = some y → j = A.length ∧ y = x := by
  intro j y hj hy
  rw [List.getElem?_append_right (by omega)] at hy
  rcases hj0 : j - A.length with _ | m
  ·rw [hj0] at hy; simp at hy; exact ⟨by omega, hy.symm⟩
  ·rw [hj0] at hy; simp at hy
 by_cases hj : j < A.length
 ·rw [List.getElem?_append_left hj] at hy
  by_cases hk : k < A.length
  ·rw [List.getElem?_append_left hk] at hz
   exact h j k y z b hy hz hby hbz
  ·obtain ⟨_, rfl⟩ := hlast k z hk hz
   have := hlt j y hy hby
   have := hx b hbz
   omega
 ·obtain ⟨e1, rfl⟩ := hlast j y hj hy
  by_cases hk : k < A.length
  ·rw [List.getElem?_append_left hk] at hz
   have := hlt k z hz hbz
   have := hx b hby
   omega
  ·obtain ⟨e2, _⟩ := hlast k z hk hz
   omega
end Go.Proofs.YtndlmgocldckfaaGreat
