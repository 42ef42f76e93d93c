import Derived.Test.YtndlmgocldckfaaGreatG06
import Derived.Test.YtndlmgocldckfaaGreatG02
namespace Go.Proofs.YtndlmgocldckfaaGreat
open Go.RowKit
set_option linter.unusedVariables false
set_option linter.unusedSimpArgs false
set_option maxRecDepth 100000
set_option maxHeartbeats 4000000
def BRowN (base : Nat) (w : World) (lv : Value) (l : List Int) : Prop := (lv = .slice none 0 0 ∧ l = []) ∨ BRow base w lv l
theorem BRowN.keep {base : Nat} {w w' : World} {lv : Value} {l : List Int} {U : Nat → Prop} (h : BRowN base w lv l) (ho : Only U w w') (hU : ∀ b, some b = lv.ownBlock → ¬ U b) : BRowN base w' lv l := by
 rcases h with h | h
 ·exact .inl h
 ·exact .inr (h.keep ho hU)
theorem BRowN.below {base : Nat} {w w' : World} {lv : Value} {l : List Int} (h : BRowN base w lv l) (hb : Below w.heap.size w w') : BRowN base w' lv l := h.keep (Only.new (S := fun _ => False) hb) (by simp)
theorem BRowN.lt {base : Nat} {w : World} {lv : Value} {l : List Int} (h : BRowN base w lv l) : ∀ b, some b = lv.ownBlock → base ≤ b ∧ b < w.heap.size := by
 rcases h with ⟨rfl, _⟩ | h
 ·intro b hb; simp [Value.ownBlock] at hb
 ·exact h.lt
theorem BRowN.form {base : Nat} {w : World} {lv : Value} {l : List Int} (h : BRowN base w lv l) : ∃ a c, lv = .slice a l.length c := by
 rcases h with ⟨rfl, rfl⟩ | h
 ·exact ⟨none, 0, rfl⟩
 ·obtain ⟨g, cap, rfl⟩ := h.form
  exact ⟨_, _, rfl⟩
theorem BRow.unfrozen {base : Nat} {w : World} {lv : Value} {l : List Int} (h : BRow base w lv l) : Free w lv := by
 obtain ⟨g, cap, cur, fz, rfl, _, hg, hz, _, _, hcs, _⟩ := h
 intro b hb
 simp [Value.ownBlock] at hb
 subst hb
 refine ⟨(Array.getElem?_eq_some_iff.1 hg).1, fun j u hu => ?_⟩
 have hj : j < cur.size := by
  simp only [World.cell?, hg] at hu
  rcases Nat.lt_or_ge j cur.size with h | h
  ·exact h
  ·rw [Array.getElem?_eq_none h] at hu; cases hu
 have := hz j hj
 obtain ⟨lo, hi⟩ := fz
 simp only [World.frozen?, hg]
 simp only [Bool.and_eq_false_iff, decide_eq_false_iff_not]
 simp only at this
 omega
theorem BRowN.unfrozen {base : Nat} {w : World} {lv : Value} {l : List Int} (h : BRowN base w lv l) : Free w lv := by
 rcases h with ⟨rfl, _⟩ | h
 ·intro b hb; simp [Value.ownBlock] at hb
 ·exact h.unfrozen
theorem BRow.set {base : Nat} {w : World} {g n cap : Nat} {l : List Int} (h : BRow base w (.slice (some ⟨g, 0, none⟩) n cap) l) (j : Nat) (hj : j < l.length) (x : Int) : BRow base (w.setCell ⟨g, j, none⟩ (.int .u8 x)) (.slice (some ⟨g, 0, none⟩) n cap) (l.set j x) := by
 obtain ⟨g', cap', cur, fz, hv, hb, hg, hz, h1, h2, h3, h4⟩ := h
 simp only [Value.slice.injEq, Option.some.injEq, Addr.mk.injEq, and_true, true_and] at hv
 obtain ⟨rfl, rfl, rfl⟩ := hv
 rw [setCell_eq_setRow w g j cur 5 fz (.int .u8 x) hg]
 refine ⟨g, cap, cur.setIfInBounds j (.int .u8 x), fz, by simp, hb, setRow_heap w g cur _ _ _ hg, by simpa using hz, by simpa using h1, h2, by simpa using h3, ?_⟩
 rw [List.length_set, Array.toList_setIfInBounds]
 refine List.ext_getElem? fun i => ?_
 have h5 := congrArg (fun z => z[i]?) h4
 by_cases hi : i < l.length
 ·rw [List.getElem?_take, if_pos hi] at h5 ⊢
  by_cases e : i = j
  ·subst e
   rw [List.getElem?_set_self (by simp; omega), byteV, List.getElem?_map, List.getElem?_set_self hi]
   rfl
  ·rw [List.getElem?_set_ne (Ne.symm e), h5, byteV, byteV, List.getElem?_map, List.getElem?_map, List.getElem?_set_ne (Ne.symm e)]
 ·rw [List.getElem?_take, if_neg hi, List.getElem?_eq_none (by simp [byteV]; omega)]
theorem byteV_rep (n : Nat) (m : Int) : byteV (List.replicate n m) = reps n [.int .u8 m] := by
 induction n with
 | zero => rfl
 | succ n ih => rw [reps_succ, ← ih, List.replicate_succ]; rfl
theorem Fill.of_brow {w : World} {base : Nat} {v : Value} {n : Nat} {m : Int} (h : BRowN base w v (List.replicate n m)) : Fill w v n (reps n [.int .u8 m]) := by
 rcases h with ⟨rfl, hn⟩ | h
 ·have : n = 0 := by simpa using congrArg List.length hn
  subst this
  exact ⟨none, 0, rfl, by simp⟩
 ·obtain ⟨g, cap, rfl, _, _, hr⟩ := h.row
  rw [byteV_rep] at hr
  exact ⟨_, _, by rw [List.length_replicate], fun _ => ⟨g, rfl, hr⟩⟩
theorem run_append_bk {w : World} (base : Nat) (ty : TypeId) (v : Value) (l : List Int) (h : BRowN base w v l) (b c : Nat) (x : List Int) (hx0 : 0 < x.length) (hnews : RowAt w b 0 (byteV x)) (hbytes : l.length + x.length ≤ 1000000000000) (hbase : base ≤ w.heap.size) :
  ∃ v' w', (Builtin.append_ #[56, 56] ty #[v, .slice (some ⟨b, 0, none⟩) x.length c]).run Tryz.prog w = .ok v' w' ∧ BRow base w' v' (l ++ x) ∧ w.grownBy w' v.ownBlock ∧ BRowN base w' v l ∧ ((v'.ownBlock = v.ownBlock ∧ v.ownBlock ≠ none) ∨ (Below w.heap.size w w' ∧ v'.ownBlock = some w.heap.size)) := by
 obtain ⟨i, hi, hz, hs, hby⟩ := info_parts Tryz.infoU8
 have ht := Tryz.underlying56
 have hn' : ∀ j u, (byteV x)[j]? = some u → w.cell? ((⟨b, 0, none⟩ : Addr).add j) = some u := fun j u hu => by rw [Addr.add_lit]; exact hnews j u hu
 have hl : (byteV x).length = x.length * i.size := by simp [byteV, hs]
 rcases h with ⟨rfl, rfl⟩ | h
 ·have h0 := run_append_nil (P := Tryz.prog) w 56 ty 5 i (.int .u8 0) ht hi hz ⟨b, 0, none⟩ x.length c (byteV x) hl hn' (by omega) (by omega) (by rw [hby]; simp at hbytes ⊢; omega)
  have hge := grownCap_ge w x.length 0 5
  have hcm : grownCap w x.length 0 5 ≤ maxLen := grownCap_le_maxLen w x.length 0 5 (by simp only [maxLen]; simp at hbytes; omega)
  refine ⟨_, _, h0, ?_, ⟨rfl, rfl, rfl, by simp, fun k hk _ => heap_alloc_old w.drew _ hk⟩, .inl ⟨rfl, rfl⟩, .inr ⟨⟨rfl, rfl, rfl, by simp, fun k hk => heap_alloc_old w.drew _ hk⟩, rfl⟩⟩
  refine ⟨w.heap.size, _, _, (0, 0), by simp, hbase, heap_alloc_new w.drew _, by intro i hi; simp, by simp; omega, hcm, ?_, ?_⟩
  ·simp only [Array.size_append, List.size_toArray, size_zeroCells, byteV_length]
   simp [Value.cells]
   omega
  ·simp only [Array.toList_append]
   rw [List.nil_append, show x.length = (byteV x).length by simp [byteV]]
   exact List.take_left
 ·have hrow := h.row
  have hK := h
  obtain ⟨g, cap, cur, fz, rfl, hb, hg, hcl, h1, h2, h3, h4⟩ := h
  obtain ⟨v', w', q1, q2, q3, q4⟩ := run_append_b (P := Tryz.prog) base 56 ty ht i hi hz hs hby (.slice (some ⟨g, 0, none⟩) l.length cap) l hK ⟨b, 0, none⟩ c x hn' (by omega) hbase
  by_cases hroom : l.length + x.length ≤ cap
  ·have hf := run_firstCells_some (P := Tryz.prog) w i.size x.length ⟨b, 0, none⟩ x.length c (byteV x) hl hn'
   have hst := run_storeCells_clear (P := Tryz.prog) g (l.length * i.size) 5 fz (byteV x) 0 cur w hg hcl (by rw [hs, byteV_length]; omega) (byteV_one x)
   simp only [Nat.add_zero] at hst
   have hr : (Builtin.append_ #[56, 56] ty #[.slice (some ⟨g, 0, none⟩) l.length cap, .slice (some ⟨b, 0, none⟩) x.length c]).run Tryz.prog w = .ok (.slice (some ⟨g, 0, none⟩) (l.length + x.length) cap) (w.setRow g (cur.toList.take (l.length * i.size) ++ byteV x ++ cur.toList.drop (l.length * i.size + (byteV x).length)).toArray) := by
    simp [Builtin.append_, run_underlying ht, sizeOf, typeInfo, hi, Builtin.lenOf, hroom, hf, Addr.add_lit, hst]
   have hv : v' = .slice (some ⟨g, 0, none⟩) (l.length + x.length) cap := by
    rw [hr] at q1
    cases q1
    rfl
   refine ⟨v', w', q1, q2, q3, ?_, .inl ⟨by rw [hv]; rfl, by simp [Value.ownBlock]⟩⟩
   obtain ⟨g', cap', cur', fz', e1, e2, e3, e4, e5, e6, e7, e8⟩ := q2
   rw [hv] at e1
   simp only [Value.slice.injEq, Option.some.injEq, Addr.mk.injEq, and_true] at e1
   obtain ⟨rfl, _, rfl⟩ := e1
   refine .inr ⟨g, cap, cur', fz', rfl, hb, e3, e4, h1, h2, e7, ?_⟩
   have := congrArg (List.take l.length) e8
   rw [List.take_take, List.length_append, Nat.min_eq_left (by omega), byteV_append] at this
   rw [this, show l.length = (byteV l).length by simp [byteV]]
   exact List.take_left
  ·obtain ⟨g', cap', he, _, _, hrw⟩ := hrow
   simp only [Value.slice.injEq, Option.some.injEq, Addr.mk.injEq] at he
   obtain ⟨⟨rfl, _⟩, _, rfl⟩ := he
   have holds : ∀ (j : Nat) u, (byteV l)[j]? = some u → w.cell? ((⟨g, 0, none⟩ : Addr).add j) = some u := fun j u hu => by rw [Addr.add_lit]; exact hrw j u hu
   have hr := run_append_grow (P := Tryz.prog) w 56 ty 5 i (.int .u8 0) ht hi hz ⟨g, 0, none⟩ l.length cap (byteV l) (by simp [byteV, hs]) holds ⟨b, 0, none⟩ x.length c (byteV x) hl hn' (by omega) (by omega) (growslice_fits (by omega) (by rw [hby]; omega))
   have q1' := q1
   rw [hr] at q1'
   cases q1'
   have hbl : Below w.heap.size w (w.drew.alloc (.cells ((byteV l).toArray ++ (byteV x).toArray ++ Builtin.zeroCells (Value.int .u8 0).cells (grownCap w (l.length + x.length) cap 5 - (l.length + x.length))) 5)) := ⟨rfl, rfl, rfl, by simp, fun k hk => heap_alloc_old w.drew _ hk⟩
   exact ⟨_, _, q1, q2, q3, .inr (hK.keep (Only.new (S := fun _ => False) hbl) (by simp)), .inr ⟨hbl, rfl⟩⟩
theorem wpList_append_bk {w : World} {ops : Array Oper} {rest : List Oper} {o : Oper} {a : Act} {Q : Exit → Act → World → Prop} (hgd : o.guard = none) (s x : Operand)
  (ho : o.op = .call { callee := .builtin .append, args := #[s, x], argTypes := #[56, 56] }) (base : Nat)
  (v : Value) (l : List Int) (hs : a.eval s = v) (h : BRowN base w v l) (b c : Nat) (y : List Int) (hy0 : 0 < y.length) (hx : a.eval x = .slice (some ⟨b, 0, none⟩) y.length c) (hnews : RowAt w b 0 (byteV y)) (hbytes : l.length + y.length ≤ 1000000000000) (hbase : base ≤ w.heap.size)
  (hK : ∀ v' w', Hid (BRow base w' v' (l ++ y)) → Hid (w.grownBy w' v.ownBlock) → Hid (BRowN base w' v l ∧ ((v'.ownBlock = v.ownBlock ∧ v.ownBlock ≠ none) ∨ (Below w.heap.size w w' ∧ v'.ownBlock = some w.heap.size))) → wpList Tryz.prog ops Q rest (a.put o.dst v') w') : wpList Tryz.prog ops Q (o :: rest) a w := by
 obtain ⟨v', w', hr, h2, h3, h4⟩ := run_append_bk base o.type v l h b c y hy0 hnews hbytes hbase
 refine wpList_plain hgd fun K hK' => ?_
 unfold Oper.wp
 simp [execOp, ho, resolve, invoke, builtin, hs, hx, hr, Result.andThen]
 exact hK' _ _ (hK v' w' h2 h3 h4)
theorem Fill.beside2 {w w' : World} {l v v1 : Value} {n m d : Nat} {x : List Value} (h1 : Fill w v1 (n + m) (reps (n + m) x)) (hmd : m ≤ d) (hd : 0 < d)
  (hf : Fill w' v (n + d) (reps (n + d) x)) (hg : w.grownBy w' l.ownBlock) (hor : (v.ownBlock = l.ownBlock ∧ l.ownBlock ≠ none) ∨ (Below w.heap.size w w' ∧ v.ownBlock = some w.heap.size)) : Fill w' v1 (n + m) (reps (n + m) x) := by
 rcases hor with ⟨he, _⟩ | ⟨hb, _⟩
 ·obtain ⟨a, c, rfl, hx⟩ := h1
  refine ⟨a, c, rfl, fun hn => ?_⟩
  obtain ⟨b, rfl, hr⟩ := hx hn
  refine ⟨b, rfl, ?_⟩
  by_cases hbl : some b = l.ownBlock
  ·obtain ⟨a2, c2, rfl, hx2⟩ := hf
   obtain ⟨b2, rfl, hr2⟩ := hx2 (by omega)
   have e2 : b2 = b := by
    have : some b2 = some b := he.trans hbl.symm
    exact Option.some.inj this
   subst e2
   intro j u hu
   refine hr2 j u ?_
   rw [show n + d = (n + m) + (d - m) by omega, reps_add, List.getElem?_append_left (List.getElem?_eq_some_iff.1 hu).1]
   exact hu
  ·exact hr.only (only_of_grown hg) hbl
 ·exact h1.only (Only.new (S := fun _ => False) hb) (by simp)
theorem Free.beside {w w' : World} {base : Nat} {l v1 : Value} {xs : List Int} (h1 : Free w v1) (hl : BRowN base w' l xs) (hg : w.grownBy w' l.ownBlock) : Free w' v1 := by
 intro b hb
 by_cases hbl : some b = l.ownBlock
 ·exact hl.unfrozen b hbl
 ·have ho := only_of_grown hg
  obtain ⟨q1, q2⟩ := h1 b hb
  have hz := hg.size
  refine ⟨by omega, fun j u hu => ?_⟩
  have hB := ho.block b q1 hbl
  rw [World.frozen?_of_block (w := w) (a := ⟨b, j, none⟩) hB]
  rw [World.cell?_of_block (w := w) (a := ⟨b, j, none⟩) hB] at hu
  exact q2 j u hu
theorem Free.below {w w' : World} {v : Value} (h : Free w v) (hb : Below w.heap.size w w') : Free w' v := h.only (Only.new (S := fun _ => False) hb) (by simp)
theorem three_bytes {wr w1 w2 w3 A1 A2 A3 : World} {Z s1 s2 s3 : Nat} {m : Int} {l v1 v2 v3 : Value} {j : Nat} (H0 : BRowN Z wr l (List.replicate j m))
  (hA1 : Below wr.heap.size wr A1) (h1 : BRow Z w1 v1 (List.replicate (j + 1) m)) (g1 : A1.grownBy w1 l.ownBlock) (k1 : BRowN Z w1 l (List.replicate j m) ∧ ((v1.ownBlock = l.ownBlock ∧ l.ownBlock ≠ none) ∨ (Below s1 A1 w1 ∧ v1.ownBlock = some s1))) (q1 : A1.heap.size = s1)
  (hA2 : Below w1.heap.size w1 A2) (h2 : BRow Z w2 v2 (List.replicate (j + 2) m)) (g2 : A2.grownBy w2 l.ownBlock) (k2 : BRowN Z w2 l (List.replicate j m) ∧ ((v2.ownBlock = l.ownBlock ∧ l.ownBlock ≠ none) ∨ (Below s2 A2 w2 ∧ v2.ownBlock = some s2))) (q2 : A2.heap.size = s2)
  (hA3 : Below w2.heap.size w2 A3) (h3 : BRow Z w3 v3 (List.replicate (j + 3) m)) (g3 : A3.grownBy w3 l.ownBlock) (k3 : BRowN Z w3 l (List.replicate j m) ∧ ((v3.ownBlock = l.ownBlock ∧ l.ownBlock ≠ none) ∨ (Below s3 A3 w3 ∧ v3.ownBlock = some s3))) (q3 : A3.heap.size = s3) :
  (Only (fun b => some b = l.ownBlock) wr w3 ∧ ∀ v n, (v, n) ∈ [(l, j), (v1, j + 1), (v2, j + 2), (v3, j + 3)] → Fill w3 v n (reps n [.int .u8 m]) ∧ ∀ b, some b = v.ownBlock → (some b = l.ownBlock ∨ wr.heap.size ≤ b) ∧ b < w3.heap.size) ∧ ∀ v n, (v, n) ∈ [(l, j), (v1, j + 1), (v2, j + 2), (v3, j + 3)] → Free w3 v := by
 subst q1 q2 q3
 have a1 := hA1.size
 have a2 := hA2.size
 have a3 := hA3.size
 have b1 := g1.size
 have b2 := g2.size
 have b3 := g3.size
 have ho : Only (fun b => some b = l.ownBlock) wr w3 := ((((((Only.new hA1).trans (only_of_grown g1)).trans (Only.new hA2)).trans (only_of_grown g2)).trans (Only.new hA3)).trans (only_of_grown g3))
 have F1 := Fill.of_brow (.inr h1)
 have F2 := Fill.of_brow (.inr h2)
 have F3 := Fill.of_brow (.inr h3)
 have f12 : Fill w2 v1 (j + 1) (reps (j + 1) [.int .u8 m]) := Fill.beside2 (d := 2) (F1.only (Only.new (S := fun _ => False) hA2) (by simp)) (by omega) (by omega) F2 g2 k2.2
 have f13 : Fill w3 v1 (j + 1) (reps (j + 1) [.int .u8 m]) := Fill.beside2 (d := 3) (f12.only (Only.new (S := fun _ => False) hA3) (by simp)) (by omega) (by omega) F3 g3 k3.2
 have f23 : Fill w3 v2 (j + 2) (reps (j + 2) [.int .u8 m]) := Fill.beside2 (d := 3) (F2.only (Only.new (S := fun _ => False) hA3) (by simp)) (by omega) (by omega) F3 g3 k3.2
 have u13 : Free w3 v1 := Free.beside ((Free.beside (h1.unfrozen.below hA2) k2.1 g2).below hA3) k3.1 g3
 have u23 : Free w3 v2 := Free.beside (h2.unfrozen.below hA3) k3.1 g3
 refine ⟨⟨ho, ?_⟩, ?_⟩
 ·intro v n hv
  simp only [List.mem_cons, List.not_mem_nil, or_false, Prod.mk.injEq] at hv
  rcases hv with ⟨rfl, rfl⟩ | ⟨rfl, rfl⟩ | ⟨rfl, rfl⟩ | ⟨rfl, rfl⟩
  ·exact ⟨Fill.of_brow k3.1, fun b hb => ⟨.inl hb, (k3.1.lt b hb).2⟩⟩
  ·refine ⟨f13, fun b hb => ⟨?_, by have := (h1.lt b hb).2; omega⟩⟩
   rcases k1.2 with ⟨e, _⟩ | ⟨_, e⟩
   ·exact .inl (by rw [← e]; exact hb)
   ·rw [e] at hb; have := Option.some.inj hb; exact .inr (by omega)
  ·refine ⟨f23, fun b hb => ⟨?_, by have := (h2.lt b hb).2; omega⟩⟩
   rcases k2.2 with ⟨e, _⟩ | ⟨_, e⟩
   ·exact .inl (by rw [← e]; exact hb)
   ·rw [e] at hb; have := Option.some.inj hb; exact .inr (by omega)
  ·refine ⟨F3, fun b hb => ⟨?_, (h3.lt b hb).2⟩⟩
   rcases k3.2 with ⟨e, _⟩ | ⟨_, e⟩
   ·exact .inl (by rw [← e]; exact hb)
   ·rw [e] at hb; have := Option.some.inj hb; exact .inr (by omega)
 ·intro v n hv
  simp only [List.mem_cons, List.not_mem_nil, or_false, Prod.mk.injEq] at hv
  rcases hv with ⟨rfl, rfl⟩ | ⟨rfl, rfl⟩ | ⟨rfl, rfl⟩ | ⟨rfl, rfl⟩
  ·exact k3.1.unfrozen
  ·exact u13
  ·exact u23
  ·exact h3.unfrozen
structure PendB (wb : Nat) (MK : List Value) (k0 k : BkD) (S : Nat → Prop) (w0 w : World) (todo : List (Value × Nat)) : Prop where
 pend : Pend wb MK k0 k S w0 w todo
 fr : ∀ v n, (v, n) ∈ todo → Free w v
 old : ∀ (j : Nat) u b, k.bl[j]? = some u → some b = u.ownBlock → S b → j / 4 = k0.bl.length / 4
theorem PendB.pushB {w0 w W w2 : World} {k0 k : BkD} {wb : Nat} {MK : List Value} {v v' : Value} {n : Nat} {S : Nat → Prop} {rest : List (Value × Nat)} (hh : PendB wb MK k0 k S w0 w ((v, n) :: rest)) (hmk : markB k.bl.length = MK) (h4 : k.bl.length / 4 = k0.bl.length / 4) (hB : Below w.heap.size w W) (hg : W.grownBy w2 k.bv.ownBlock) (hown : w2.ownsRow 0 56 1 v' (k.bl.length + 1) (k.bl ++ [v])) (hwh : v'.ownBlock = k.bv.ownBlock ∨ v'.ownBlock = some W.heap.size) :
  PendB wb MK k0 { k with bv := v', bl := k.bl ++ [v] } S w0 (w2.setCell ⟨wb, 1, none⟩ v') rest := by
 have h := hh.pend
 obtain ⟨hn, hv, hvs⟩ := h.todo v n List.mem_cons_self
 rw [← hmk] at hv
 obtain ⟨h1, h2, h3⟩ := h.st.p.pushB (S := S) hB hg hown hwh hn hv (hh.fr v n List.mem_cons_self) (fun j u b hu hb1 hb2 => by rw [h4]; exact hh.old j u b hu hb2 (hvs b hb1).1) (fun b hb => (hvs b hb).2) (fun b hb => (hvs b hb).1)
 have hz := h3.size
 refine ⟨⟨h.st.trans h1, fun x m hx => ?_⟩, fun x m hx => ?_, fun j u b hu hb hS => ?_⟩
 ·obtain ⟨a1, a2, a3⟩ := h.todo x m (List.mem_cons_of_mem _ hx)
  refine ⟨a1, a2.only h3 ?_, fun b hb => ?_⟩
  ·rintro b hb (e | e)
   ·exact (a3 b hb).2.2.2 e
   ·exact (a3 b hb).2.2.1 (.inl e)
  ·obtain ⟨q1, q2, q3, q4⟩ := a3 b hb
   exact ⟨q1, by omega, h2 b q2 q3, q4⟩
 ·obtain ⟨a1, a2, a3⟩ := h.todo x m (List.mem_cons_of_mem _ hx)
  refine (hh.fr x m (List.mem_cons_of_mem _ hx)).only h3 ?_
  rintro b hb (e | e)
  ·exact (a3 b hb).2.2.2 e
  ·exact (a3 b hb).2.2.1 (.inl e)
 ·by_cases hj : j < k.bl.length
  ·rw [List.getElem?_append_left hj] at hu
   exact hh.old j u b hu hb hS
  ·have hlt := (List.getElem?_eq_some_iff.1 hu).1
   simp at hlt
   rw [show j = k.bl.length by omega]
   exact h4
end Go.Proofs.YtndlmgocldckfaaGreat
