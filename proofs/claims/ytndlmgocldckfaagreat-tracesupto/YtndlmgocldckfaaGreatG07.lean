import Derived.Test.YtndlmgocldckfaaGreatG02
import Derived.BigRegion
import Derived.BigQuiet
import Derived.Deep.QuietTactic
import Derived.Deep.LoopGhost
import Derived.RegionTactic
import Derived.Deep.DeepCutAuto
import Derived.Deep.RegionHeld3
import Derived.MapFrom
import Derived.WideLaws
import Derived.Laws.StructEq
import Derived.Carry
import Derived.Laws.ResultCell
import Derived.Maps.RangeWalk
import Derived.Maps.RangeRun
import Derived.Deep.RegionLaw
import Derived.Test.YtndlmgocldckfaaGreatG01
namespace Go.Proofs.YtndlmgocldckfaaGreat
open Go.RowKit
set_option linter.unusedVariables false
set_option linter.unusedSimpArgs false
set_option maxRecDepth 100000
set_option maxHeartbeats 4000000
def MomIn (cur : Array Value) (f : Nat → Mom) (n : Nat) : Prop := ∀ i, i < n → cur[i * 2]? = some (.int .i64 (f i).time) ∧ cur[i * 2 + 1]? = some (.int .i64 (f i).number)
def RowB (w : World) (b T S : Nat) (f : Nat → Mom) (n : Nat) : Prop := ∃ cur : Array Value, w.heap[b]? = some (.cells cur T (0, 0)) ∧ cur.size = S ∧ MomIn cur f n
theorem RowB.lt {w : World} {b T S n : Nat} {f : Nat → Mom} (h : RowB w b T S f n) : b < w.heap.size := by
 obtain ⟨cur, h1, _⟩ := h
 exact (Array.getElem?_eq_some_iff.1 h1).1
theorem RowB.cell {w : World} {b T S n : Nat} {f : Nat → Mom} (h : RowB w b T S f n) {i : Nat} (hi : i < n) :
  w.cell? ⟨b, i * 2, none⟩ = some (.int .i64 (f i).time) ∧ w.cell? ⟨b, i * 2 + 1, none⟩ = some (.int .i64 (f i).number) ∧ w.frozen? ⟨b, i * 2, none⟩ = false ∧ w.frozen? ⟨b, i * 2 + 1, none⟩ = false := by
 obtain ⟨cur, h1, h2, h3⟩ := h
 obtain ⟨h4, h5⟩ := h3 i hi
 simp [World.cell?, World.frozen?, h1, h4, h5]
theorem RowB.below {w w' : World} {b T S n : Nat} {f : Nat → Mom} (h : RowB w b T S f n) (hb : Below w.heap.size w w') : RowB w' b T S f n := by
 have := h.lt
 obtain ⟨cur, h1, h2⟩ := h
 exact ⟨cur, (hb.block b this).trans h1, h2⟩
theorem RowB.only {w w' : World} {b T S n : Nat} {f : Nat → Mom} {U : Nat → Prop} (h : RowB w b T S f n) (ho : Only U w w') (hb : ¬ U b) : RowB w' b T S f n := by
 have := h.lt
 obtain ⟨cur, h1, h2⟩ := h
 exact ⟨cur, (ho.block b this hb).trans h1, h2⟩
theorem RowB.drew {w : World} {b T S n : Nat} {f : Nat → Mom} (h : RowB w b T S f n) : RowB w.drew b T S f n := h
def setM (w : World) (b i : Nat) (m : Mom) : World := (w.setCell ⟨b, i * 2, none⟩ (.int .i64 m.time)).setCell ⟨b, i * 2 + 1, none⟩ (.int .i64 m.number)
theorem Only.setM {U : Nat → Prop} {a w : World} {b : Nat} (h : Only U a w) (hb : U b) (i : Nat) (m : Mom) : Only U a (setM w b i m) := (h.setCell hb _).setCell hb _
theorem Only.drew {U : Nat → Prop} {a w : World} (h : Only U a w) : Only U a w.drew := h.trans ⟨rfl, rfl, rfl, Nat.le_refl _, fun _ _ _ => rfl⟩
theorem heap_setCell_at {w : World} {b o T : Nat} {cur : Array Value} (h : w.heap[b]? = some (.cells cur T (0, 0))) (v : Value) : (w.setCell ⟨b, o, none⟩ v).heap[b]? = some (.cells (cur.setIfInBounds o v) T (0, 0)) := by
 simp [World.setCell, Array.getElem?_modify, h]
theorem RowB.set {w : World} {b T S n : Nat} {f : Nat → Mom} (h : RowB w b T S f n) {i : Nat} (hi : i < n) (m : Mom) : RowB (setM w b i m) b T S (putF f i m) n := by
 obtain ⟨cur, h1, h2, h3⟩ := h
 refine ⟨(cur.setIfInBounds (i * 2) (.int .i64 m.time)).setIfInBounds (i * 2 + 1) (.int .i64 m.number), heap_setCell_at (heap_setCell_at h1 _) _, by simp [h2], ?_⟩
 have hs : i * 2 + 1 < cur.size := by
  have := (h3 i hi).2
  exact (Array.getElem?_eq_some_iff.1 this).1
 intro j hj
 obtain ⟨a, c⟩ := h3 j hj
 by_cases hji : j = i
 ·subst hji
  refine ⟨?_, ?_⟩
  ·rw [Array.getElem?_setIfInBounds_ne (by omega), Array.getElem?_setIfInBounds_self_of_lt (by omega)]; simp [putF]
  ·rw [Array.getElem?_setIfInBounds_self_of_lt (by simp; omega)]; simp [putF]
 ·refine ⟨?_, ?_⟩
  ·rw [Array.getElem?_setIfInBounds_ne (by omega), Array.getElem?_setIfInBounds_ne (by omega)]; simp [putF, hji, a]
  ·rw [Array.getElem?_setIfInBounds_ne (by omega), Array.getElem?_setIfInBounds_ne (by omega)]; simp [putF, hji, c]
def momCells (f : Nat → Mom) (n : Nat) : List Value := (List.range (n * 2)).map fun j => if j % 2 = 0 then .int .i64 (f (j / 2)).time else .int .i64 (f (j / 2)).number
theorem momCells_length (f : Nat → Mom) (n : Nat) : (momCells f n).length = n * 2 := by simp [momCells]
theorem momCells_get (f : Nat → Mom) (n i : Nat) (h : i < n) : (momCells f n)[i * 2]? = some (.int .i64 (f i).time) ∧ (momCells f n)[i * 2 + 1]? = some (.int .i64 (f i).number) := by
 refine ⟨?_, ?_⟩
 ·simp [momCells]
  refine ⟨i * 2, ?_, ?_⟩
  ·rw [List.getElem?_range (by omega)]
  ·simp
 ·simp [momCells]
  refine ⟨i * 2 + 1, ?_, ?_⟩
  ·rw [List.getElem?_range (by omega)]
  ·simp [show (i * 2 + 1) % 2 = 1 by omega, show (i * 2 + 1) / 2 = i by omega]
theorem MomIn.cells {cur : Array Value} {f : Nat → Mom} {n : Nat} (h : MomIn cur f n) (hs : n * 2 ≤ cur.size) : cur.toList.take (n * 2) = momCells f n := by
 apply List.ext_getElem?
 intro j
 by_cases hj : j < n * 2
 ·rw [List.getElem?_take, if_pos hj, Array.getElem?_toList]
  have h1 := momCells_get f n (j / 2) (by omega)
  have h2 := h (j / 2) (by omega)
  have : j % 2 = 0 ∨ j % 2 = 1 := by omega
  rcases this with h0 | h0
  ·have e : j / 2 * 2 = j := by omega
   rw [e] at h1 h2
   rw [h1.1, h2.1]
  ·have e : j / 2 * 2 + 1 = j := by omega
   rw [e] at h1 h2
   rw [h1.2, h2.2]
 ·rw [List.getElem?_eq_none (by simp; omega), List.getElem?_eq_none (by rw [momCells_length]; omega)]
theorem MomIn.of {cur : Array Value} {f : Nat → Mom} {n : Nat} (h : cur.toList.take (n * 2) = momCells f n) : MomIn cur f n := by
 intro i hi
 have h1 := momCells_get f n i hi
 rw [← h] at h1
 rw [List.getElem?_take, if_pos (by omega), List.getElem?_take, if_pos (by omega)] at h1
 simpa using h1
def OrdV (base : Nat) (w : World) (v : Value) (n : Nat) (f : Nat → Mom) : Prop :=
 (v = .slice none 0 0 ∧ n = 0) ∨ ∃ b cap, v = .slice (some ⟨b, 0, none⟩) n cap ∧ base ≤ b ∧ n ≤ cap ∧ cap ≤ maxLen ∧ RowB w b 186 (cap * 2) f n
theorem OrdV.owns {base : Nat} {w : World} {v : Value} {n : Nat} {f : Nat → Mom} (h : OrdV base w v n f) : w.ownsRow base 186 2 v n (momCells f n) := by
 refine ⟨momCells_length f n, ?_⟩
 rcases h with h | ⟨b, cap, rfl, hb, h1, h2, cur, h3, h4, h5⟩
 ·exact .inl h
 ·exact .inr ⟨b, cap, cur, rfl, hb, h3, h1, h2, h4, h5.cells (by rw [h4]; exact Nat.mul_le_mul_right _ h1)⟩
theorem OrdV.of {base : Nat} {w : World} {v : Value} {n : Nat} {f : Nat → Mom} (h : w.ownsRow base 186 2 v n (momCells f n)) : OrdV base w v n f := by
 obtain ⟨_, h | ⟨g, cap, cur, rfl, hb, hg, h1, h2, h3, h4⟩⟩ := h
 ·exact .inl h
 ·exact .inr ⟨g, cap, rfl, hb, h1, h2, cur, hg, h3, MomIn.of h4⟩
theorem OrdV.below {base : Nat} {w w' : World} {v : Value} {n : Nat} {f : Nat → Mom} (h : OrdV base w v n f) (hb : Below w.heap.size w w') : OrdV base w' v n f := by
 rcases h with h | ⟨b, cap, rfl, h0, h1, h2, h3⟩
 ·exact .inl h
 ·exact .inr ⟨b, cap, rfl, h0, h1, h2, h3.below hb⟩
theorem OrdV.only {base : Nat} {w w' : World} {v : Value} {n : Nat} {f : Nat → Mom} {U : Nat → Prop} (h : OrdV base w v n f) (ho : Only U w w') (hU : ∀ b, some b = v.ownBlock → ¬ U b) : OrdV base w' v n f := by
 rcases h with h | ⟨b, cap, rfl, h0, h1, h2, h3⟩
 ·exact .inl h
 ·exact .inr ⟨b, cap, rfl, h0, h1, h2, h3.only ho (hU b rfl)⟩
theorem OrdV.lt {base : Nat} {w : World} {v : Value} {n : Nat} {f : Nat → Mom} (h : OrdV base w v n f) : ∀ b, some b = v.ownBlock → base ≤ b ∧ b < w.heap.size := by
 rcases h with ⟨rfl, _⟩ | ⟨b, cap, rfl, h0, h1, h2, h3⟩
 ·intro b hb; simp [Value.ownBlock] at hb
 ·intro b' hb; simp [Value.ownBlock] at hb; subst hb; exact ⟨h0, h3.lt⟩
theorem OrdV.form {base : Nat} {w : World} {v : Value} {n : Nat} {f : Nat → Mom} (h : OrdV base w v n f) : ∃ sa sc, v = .slice sa n sc := by
 rcases h with ⟨rfl, rfl⟩ | ⟨b, cap, rfl, _⟩
 ·exact ⟨_, _, rfl⟩
 ·exact ⟨_, _, rfl⟩
theorem RiseF.last {f : Nat → Mom} {n : Nat} (h : HeapF f n) (m : Mom) : RiseF (putF f n m) (n + 1) n := by
 refine ⟨?_, ?_⟩
 ·intro j hj hjn hne
  simp [putF, hne, show (j - 1) / 2 ≠ n by omega]
  exact h j hj (by omega)
 ·intro j hn hj hjn hp
  omega
def evVal (e : Ev) : Value := .agg #[.int .i64 e.number, .int .i64 e.time, .int .i64 e.kind, .int .i64 e.entity]
structure MapQ (es : Array MapEntry) (clock : Nat) (q : List Ev) : Prop where
 size : es.size = q.length
 stamped : MapKept.Stamped es clock
 sub : ∀ x ∈ es.toList, ∃ e, e ∈ q ∧ x.key = .int .i64 e.number ∧ x.val = evVal e
 sup : ∀ e ∈ q, ∃ x, x ∈ es.toList ∧ x.key = .int .i64 e.number ∧ x.val = evVal e
section
variable {W : World} {mb : Nat} {es : Array MapEntry} {clock : Nat} {q : List Ev}
theorem MapQ.put (h : MapQ es clock q) {e : Ev} (hn : ∀ x ∈ q, x.number ≠ e.number) {q' : List Ev} (hl : q'.length = q.length + 1) (hq : ∀ x, x ∈ q' ↔ x = e ∨ x ∈ q) : MapQ (es.push { key := .int .i64 e.number, val := evVal e, born := clock }) (clock + 1) q' := by
 refine ⟨by simp [h.size, hl], MapKept.stamped_push h.stamped ?_, ?_, ?_⟩
 ·intro x hx hk
  obtain ⟨e', he', hk', _⟩ := h.sub x hx
  rw [hk'] at hk
  exact hn e' he' (by simpa using hk)
 ·intro x hx
  simp only [Array.toList_push, List.mem_append, List.mem_singleton] at hx
  rcases hx with hx | rfl
  ·obtain ⟨e', he', r⟩ := h.sub x hx
   exact ⟨e', (hq e').2 (.inr he'), r⟩
  ·exact ⟨e, (hq e).2 (.inl rfl), rfl, rfl⟩
 ·intro x hx
  rcases (hq x).1 hx with rfl | hx
  ·exact ⟨{ key := .int .i64 x.number, val := evVal x, born := clock }, by simp, rfl, rfl⟩
  ·obtain ⟨y, hy, r⟩ := h.sup x hx
   exact ⟨y, by simp at hy ⊢; exact .inl hy, r⟩
end
structure QueP (base : Nat) (w : World) (qb mb : Nat) (ov : Value) (q : List Ev) : Prop where
 c0 : w.cell? ⟨qb, 0, none⟩ = some (.map (some mb))
 c1 : w.cell? ⟨qb, 1, none⟩ = some ov
 thaw : w.frozen? ⟨qb, 1, none⟩ = false
 map : ∃ es clock, w.heap[mb]? = some (.map es clock) ∧ MapQ es clock q
 ord : ∃ f, OrdV base w ov q.length f ∧ HeapF f q.length ∧ MomsOf f q.length q
 qm : qb ≠ mb
 qo : some qb ≠ ov.ownBlock
 mo : some mb ≠ ov.ownBlock
 sorted : Sorted q
 distinct : Distinct q
 len : q.length ≤ 16
def QSet (qb mb : Nat) (ov : Value) (b : Nat) : Prop := b = qb ∨ b = mb ∨ some b = ov.ownBlock
theorem QueP.only {base : Nat} {w w' : World} {qb mb : Nat} {ov : Value} {q : List Ev} {U : Nat → Prop} (h : QueP base w qb mb ov q) (ho : Only U w w') (hU : ∀ b, QSet qb mb ov b → ¬ U b) : QueP base w' qb mb ov q := by
 have hq := hU qb (.inl rfl)
 have hm := hU mb (.inr (.inl rfl))
 have hlt := lt_of_cell h.c1
 refine ⟨ho.at h.c0 hq, ho.at h.c1 hq, ?_, ?_, ?_, h.qm, h.qo, h.mo, h.sorted, h.distinct, h.len⟩
 ·rw [World.frozen?_of_block (w := w) (a := ⟨qb, 1, none⟩) (ho.block qb hlt hq)]; exact h.thaw
 ·obtain ⟨es, clock, h1, h2⟩ := h.map
  exact ⟨es, clock, (ho.block mb (Array.getElem?_eq_some_iff.1 h1).1 hm).trans h1, h2⟩
 ·obtain ⟨f, h1, h2⟩ := h.ord
  exact ⟨f, h1.only ho (fun b hb => hU b (.inr (.inr hb))), h2⟩
theorem QueP.below {base : Nat} {w w' : World} {qb mb : Nat} {ov : Value} {q : List Ev} (h : QueP base w qb mb ov q) (hb : Below w.heap.size w w') : QueP base w' qb mb ov q := h.only (Only.new (S := fun _ => False) hb) (by simp)
theorem QueP.lt {base : Nat} {w : World} {qb mb : Nat} {ov : Value} {q : List Ev} (h : QueP base w qb mb ov q) : ∀ b, QSet qb mb ov b → b < w.heap.size := by
 rintro b (rfl | rfl | hb)
 ·exact lt_of_cell h.c0
 ·obtain ⟨es, clock, h1, _⟩ := h.map; exact (Array.getElem?_eq_some_iff.1 h1).1
 ·obtain ⟨f, h1, _⟩ := h.ord; exact (h1.lt b hb).2
def Moved (w : World) (ov ov' : Value) : Prop := ov'.ownBlock = ov.ownBlock ∨ ∃ g, ov'.ownBlock = some g ∧ w.heap.size ≤ g
end Go.Proofs.YtndlmgocldckfaaGreat

namespace Go.Proofs.YtndlmgocldckfaaGreat
open Go.RowKit
open Go.ChangeMaps (setBlock)
set_option linter.unusedVariables false
set_option linter.unusedSimpArgs false
set_option maxRecDepth 100000
set_option maxHeartbeats 4000000
theorem same_length : ∀ (a b : List Ev), Distinct a → Distinct b → (∀ x, x ∈ a ↔ x ∈ b) → a.length = b.length
 | [], b, _, _, h => by
  cases b with
  | nil => rfl
  | cons y b => exact absurd ((h y).2 (by simp)) (by simp)
 | x :: a, b, ha, hb, h => by
  obtain ⟨h1, h2⟩ := List.pairwise_cons.1 ha
  have hx : x ∈ b := (h x).1 (by simp)
  have hl := outF_length hb hx rfl
  have ih := same_length a (outF x.number b) h2 (outF_distinct hb) (fun y => by
   rw [outF_mem]
   constructor
   ·intro hy; exact ⟨(h y).1 (by simp [hy]), (h1 y hy).symm⟩
   ·rintro ⟨hy, hn⟩
    rcases List.mem_cons.1 ((h y).2 hy) with rfl | hy
    ·exact absurd rfl hn
    ·exact hy)
  simp; omega
theorem MapQ.same {es : Array MapEntry} {clock : Nat} {a b : List Ev} (h : MapQ es clock a) (ha : Distinct a) (hb : Distinct b) (hm : ∀ x, x ∈ a ↔ x ∈ b) : MapQ es clock b := by
 refine ⟨h.size.trans (same_length a b ha hb hm), h.stamped, ?_, ?_⟩
 ·intro x hx; obtain ⟨e, he, r⟩ := h.sub x hx; exact ⟨e, (hm e).1 he, r⟩
 ·intro e he; exact h.sup e ((hm e).2 he)
section
variable {P : Program} {w : World} {ops : Array Oper} {rest : List Oper} {o : Oper} {a : Act} {Q : Exit → Act → World → Prop}
end
end Go.Proofs.YtndlmgocldckfaaGreat

namespace Go.Proofs.YtndlmgocldckfaaGreat
open Go.RowKit
set_option linter.unusedVariables false
set_option linter.unusedSimpArgs false
set_option maxRecDepth 100000
set_option maxHeartbeats 4000000
theorem step_append_src {P : Program} {w : World} {ops : Array Oper} {o : Oper} {a : Act} {K : Act → World → Prop} {Q : Exit → Act → World → Prop} {E : Prop} (hgd : o.guard = none) (s x : Operand) (t : TypeId)
  (ho : o.op = .call { callee := .builtin .append, args := #[s, x], argTypes := #[t, t] })
  (base : Nat) (e : TypeId) (z : Value) (size bytes : Nat) (ht : P.underlying t = some (.slice e)) (hinfo : (P.info? e).map (fun i => (i.zero, i.size, i.bytes)) = some (some z, size, bytes))
  (hzs : z.cells.size = size) (hsz : 0 < size)
  (v : Value) (n : Nat) (xs : List Value) (hs : a.eval s = v) (hown : w.ownsRow base e size v n xs)
  (sv : Value) (m : Nat) (news : List Value) (hx : a.eval x = sv) (hsrc : SrcAt w sv m news) (hl : news.length = m * size) (h1 : ∀ u ∈ news, u.oneCell' = true)
  (hbytes : (n + m) * bytes ≤ 140737488355328) (h63 : n + m ≤ 9223372036854775807) (hbase : base ≤ w.heap.size)
  (h : ∀ v' w', Hid (w'.ownsRow base e size v' (n + m) (xs ++ news)) → Hid (w.grownBy w' v.ownBlock) → Hid (v'.ownBlock = v.ownBlock ∨ v'.ownBlock = some w.heap.size) → K (a.put o.dst v') w') :
  if Region.wanted o (yielded ops a.tmps) = true then Oper.wp P o a w K Q else E := by
 have hw : Region.wanted o (yielded ops a.tmps) = true := by simp [Region.wanted, hgd]
 rw [if_pos hw]
 obtain ⟨i, hi, hz, hsz', hby⟩ := info_parts hinfo
 have hsrc' : (sv = .slice none 0 0 ∧ m = 0 ∧ news = []) ∨ ∃ ad c, sv = .slice (some ad) m c ∧ ∀ j u, news[j]? = some u → w.cell? (Addr.add ad j) = some u := by
  rcases hsrc with h | ⟨b, off, c, h, hrow⟩ | ⟨ad, c, h, h0⟩
  ·exact .inl h
  ·exact .inr ⟨⟨b, off, none⟩, c, h, fun j u hu => by rw [Addr.add_lit]; exact hrow j u hu⟩
  ·exact .inr ⟨ad, c, h, fun j u hu => by rw [h0] at hu; simp at hu⟩
 rcases hsrc' with ⟨rfl, rfl, rfl⟩ | ⟨ad, c, rfl, hnews⟩
 ·subst hsz'
  have hr := run_append_owned_none (P := P) w base t o.type e i i.size ht hi v n xs hown
  unfold Oper.wp
  simp [execOp, ho, resolve, invoke, builtin, hs, hx, hr, Result.andThen]
  exact h v w (by show World.ownsRow _ _ _ _ _ _ _; simpa using hown) ⟨rfl, rfl, rfl, Nat.le_refl _, fun _ _ _ => rfl⟩ (.inl rfl)
 ·subst hsz'
  subst hby
  obtain ⟨v', w', hr, h2, h3, h4⟩ := run_append_own (P := P) w base t o.type e i z i.size i.bytes ht hi hz rfl rfl hzs hsz v n xs hown ad m c news hl hnews h1 (by simp only [maxLen]; omega) hbytes hbase
  have h5 := run_append_where base t o.type e i z ht hi hz v n xs hown ad m c news hl hnews h1 h63 hbytes v' w' hr
  unfold Oper.wp
  simp [execOp, ho, resolve, invoke, builtin, hs, hx, hr, Result.andThen]
  exact h v' w' h2 h3 h5
theorem OrdV.src {base : Nat} {w : World} {v : Value} {n : Nat} {f : Nat → Mom} (h : OrdV base w v n f) : SrcAt w v n (momCells f n) := by
 rcases h with ⟨rfl, rfl⟩ | ⟨b, cap, rfl, h0, h1, h2, cur, h3, h4, h5⟩
 ·exact .inl ⟨rfl, rfl, rfl⟩
 ·refine .inr (.inl ⟨b, 0, cap, rfl, ?_⟩)
  intro j u hu
  have hj : j < n * 2 := by have := (List.getElem?_eq_some_iff.1 hu).1; rwa [momCells_length] at this
  rw [← h5.cells (by rw [h4]; exact Nat.mul_le_mul_right _ h1), List.getElem?_take, if_pos hj] at hu
  simpa [World.cell?, h3] using hu
theorem OrdV.zero {base : Nat} {w : World} {sa : Option Addr} {sc n : Nat} {f : Nat → Mom} (h : OrdV base w (.slice sa n sc) n f) : w.ownsRow base 186 2 (.slice sa 0 sc) 0 [] := by
 rcases h with ⟨h, rfl⟩ | ⟨b, cap, h, h0, h1, h2, cur, h3, h4, h5⟩
 ·simp only [Value.slice.injEq] at h
  obtain ⟨rfl, _, rfl⟩ := h
  exact ⟨rfl, .inl ⟨rfl, rfl⟩⟩
 ·simp only [Value.slice.injEq] at h
  obtain ⟨rfl, _, rfl⟩ := h
  exact ⟨rfl, .inr ⟨b, sc, cur, rfl, h0, h3, by omega, h2, h4, by simp⟩⟩
theorem within_any (n lo hi : Int) (w : World) :
  Calls Tryz.prog 97 #[.int .i64 n, .int .i64 lo, .int .i64 hi] w fun e w' => e = .returned (.bool (inB n lo hi)) ∧ w' = w := by
 by_cases h1 : lo ≤ n <;> by_cases h2 : n ≤ hi
 all_goals
  go_enter Tryz.func97, Tryz.ntmps97
  go_wp2
  go_ret
  exact ⟨by simp [inB, *], rfl⟩
theorem isValue_any (n : Int) (w : World) :
  Calls Tryz.prog 131 #[.int .i64 n] w fun e w' => e = .returned (.bool (inB n (-1000000000) 1000000000)) ∧ w' = w := by
 go_enter Tryz.func131, Tryz.ntmps131
 go_wp2_with (go_at_call 97; refine (within_any _ _ _ _).mono ?_; rintro e w' ⟨rfl, rfl⟩)
 go_ret
 exact ⟨rfl, rfl⟩
structure KS where
 taken : Nat
 clock : Int
 next : Int
 regs : Nat → Int
 q : List Ev
def KSet (kb qb mb : Nat) (ov : Value) (b : Nat) : Prop := b = kb ∨ QSet qb mb ov b
structure KerP (R : Nat → Prop) (base : Nat) (w : World) (kb qb mb : Nat) (ov : Value) (ents : Int) (ks : List (List Ins)) (draws : List Int) (s : KS) : Prop where
 c0 : w.cell? ⟨kb, 0, none⟩ = some (.int .i64 ents)
 kinds : ∃ kv, w.cell? ⟨kb, 1, none⟩ = some kv ∧ KindsIn R w kv ks
 draw : ∃ dv, w.cell? ⟨kb, 2, none⟩ = some dv ∧ IntsIn R w dv draws
 c3 : w.cell? ⟨kb, 3, none⟩ = some (.pointer (some ⟨qb, 0, none⟩))
 c4 : w.cell? ⟨kb, 4, none⟩ = some (.int .i64 s.clock)
 c5 : w.cell? ⟨kb, 5, none⟩ = some (.int .i64 s.next)
 c6 : w.cell? ⟨kb, 6, none⟩ = some (.int .i64 s.taken)
 regs : ∀ j, j < 32 → w.cell? ⟨kb, 7 + j, none⟩ = some (.int .i64 (s.regs j))
 room : Room w kb 39
 que : QueP base w qb mb ov s.q
 kq : ¬ QSet qb mb ov kb
 far : ∀ b, R b → b ≠ kb ∧ ¬ QSet qb mb ov b
 rlt : ∀ b, R b → b < w.heap.size
section
variable {R : Nat → Prop} {base : Nat} {w w' : World} {kb qb mb : Nat} {ov : Value} {ents : Int} {ks : List (List Ins)} {draws : List Int} {s : KS}
theorem KerP.klt (h : KerP R base w kb qb mb ov ents ks draws s) : kb < w.heap.size := lt_of_cell h.c0
theorem KerP.lt (h : KerP R base w kb qb mb ov ents ks draws s) : ∀ b, KSet kb qb mb ov b → b < w.heap.size := by
 rintro b (rfl | hb)
 ·exact h.klt
 ·exact h.que.lt b hb
theorem KerP.only {U : Nat → Prop} (h : KerP R base w kb qb mb ov ents ks draws s) (ho : Only U w w') (hU : ∀ b, KSet kb qb mb ov b → ¬ U b) (hR : ∀ b, R b → ¬ U b) : KerP R base w' kb qb mb ov ents ks draws s := by
 have hk := hU kb (.inl rfl)
 obtain ⟨kv, hk1, hk2⟩ := h.kinds
 obtain ⟨dv, hd1, hd2⟩ := h.draw
 exact ⟨ho.at h.c0 hk, ⟨kv, ho.at hk1 hk, hk2.only ho hR⟩, ⟨dv, ho.at hd1 hk, hd2.only ho hR⟩, ho.at h.c3 hk, ho.at h.c4 hk, ho.at h.c5 hk, ho.at h.c6 hk, fun j hj => ho.at (h.regs j hj) hk, h.room.only ho hk, h.que.only ho (fun b hb => hU b (.inr hb)), h.kq, h.far, fun b hb => Nat.lt_of_lt_of_le (h.rlt b hb) ho.size⟩
theorem KerP.below (h : KerP R base w kb qb mb ov ents ks draws s) (hb : Below w.heap.size w w') : KerP R base w' kb qb mb ov ents ks draws s := h.only (Only.new (S := fun _ => False) hb) (by simp) (by simp)
theorem KerP.queue {ov' : Value} {q' : List Ev} (h : KerP R base w kb qb mb ov ents ks draws s) (ho : Only (QSet qb mb ov) w w') (hq : QueP base w' qb mb ov' q') (hm : Moved w ov ov') : KerP R base w' kb qb mb ov' ents ks draws { s with q := q' } := by
 have hk := h.kq
 have hR := fun b hb => (h.far b hb).2
 obtain ⟨kv, hk1, hk2⟩ := h.kinds
 obtain ⟨dv, hd1, hd2⟩ := h.draw
 have hset : ∀ b, b < w.heap.size → ¬ QSet qb mb ov b → ¬ QSet qb mb ov' b := by
  rintro b hb hn (rfl | rfl | hc)
  ·exact hn (.inl rfl)
  ·exact hn (.inr (.inl rfl))
  ·rcases hm with e | ⟨g, e, hg⟩
   ·exact hn (.inr (.inr (hc.trans e)))
   ·rw [e] at hc; simp at hc; omega
 exact ⟨ho.at h.c0 hk, ⟨kv, ho.at hk1 hk, hk2.only ho hR⟩, ⟨dv, ho.at hd1 hk, hd2.only ho hR⟩, ho.at h.c3 hk, ho.at h.c4 hk, ho.at h.c5 hk, ho.at h.c6 hk, fun j hj => ho.at (h.regs j hj) hk, h.room.only ho hk, hq, hset kb h.klt hk, fun b hb => ⟨(h.far b hb).1, hset b (h.rlt b hb) (h.far b hb).2⟩, fun b hb => Nat.lt_of_lt_of_le (h.rlt b hb) ho.size⟩
def putR (f : Nat → Int) (i : Nat) (v : Int) : Nat → Int := fun k => if k = i then v else f k
end
def cutF (n : Int) : Int := min (max n (-1000000000)) 1000000000
def doI (draws : List Int) (E : Nat) (x : Ins) (s : KS) : KS × List Int × Int :=
 let a := E * 4 + x.a.toNat
 if x.op = 1 then ({ s with regs := putR s.regs a x.b }, [], 0)
 else if x.op = 2 then ({ s with regs := putR s.regs a (cutF (s.regs a + s.regs (E * 4 + x.b.toNat))) }, [], 0)
 else if x.op = 3 then ({ s with regs := putR s.regs a (cutF (s.regs a - s.regs (E * 4 + x.b.toNat))) }, [], 0)
 else if x.op = 4 then
  match draws[s.taken]? with
  | none => ({ s with regs := putR s.regs a 0 }, [], 5)
  | some d => ({ s with taken := s.taken + 1, regs := putR s.regs a (d % x.b) }, [], 0)
 else if x.op = 6 then
  if ¬ (s.q.length < 16 ∧ s.next < 1000000000) then ({ s with regs := putR s.regs (E * 4 + 3) 0 }, [], 3)
  else if 1000000000000 < s.clock + max (s.regs (E * 4 + x.c.toNat)) 0 then ({ s with regs := putR s.regs (E * 4 + 3) 0 }, [], 4)
  else ({ s with q := insF ⟨s.clock + max (s.regs (E * 4 + x.c.toNat)) 0, s.next, x.a, x.b⟩ s.q, next := s.next + 1, regs := putR s.regs (E * 4 + 3) s.next }, [], 0)
 else if x.op = 7 then ({ s with q := outF (s.regs a) s.q }, [], 0)
 else (s, [s.regs a], 0)
def execS (draws : List Int) (E : Nat) : List Ins → Nat → KS → List Int → KS × List Int × Int
 | [], _, s, told => (s, told, 0)
 | _ :: l, k + 1, s, told => execS draws E l k s told
 | x :: l, 0, s, told =>
  if x.op = 5 then
   if s.regs (E * 4 + x.a.toNat) ≤ 0 then execS draws E l x.b.toNat s told else execS draws E l 0 s told
  else
   match doI draws E x s with
   | (s', t, why) => if why = 0 then execS draws E l 0 s' (told ++ t) else (s', [], why)
def execF (draws : List Int) (E : Nat) (l : List Ins) (s : KS) (told : List Int) : KS × List Int × Int := execS draws E l 0 s told
structure KOk (ents : Int) (nk : Nat) (draws : List Int) (s : KS) : Prop where
 taken : s.taken ≤ draws.length
 clock : 0 ≤ s.clock ∧ s.clock ≤ 1000000000000
 next : 1 ≤ s.next ∧ s.next ≤ 1000000000
 regs : ∀ j, -1000000000 ≤ s.regs j ∧ s.regs j ≤ 1000000000
 evs : ∀ e ∈ s.q, s.clock ≤ e.time ∧ e.time ≤ 1000000000000 ∧ 1 ≤ e.number ∧ e.number < s.next ∧ 0 ≤ e.kind ∧ e.kind < nk ∧ 0 ≤ e.entity ∧ e.entity < ents
 len : s.q.length ≤ 16
def drawB (n : Int) : Bool := inB n 0 1000000000
def drawsF (l : List Int) : Bool := decide (l.length ≤ 1000) && l.all drawB
theorem CodeV.src {B : Nat} {w : World} {v : Value} {l : List Ins} (h : CodeV B w v l) : SrcAt w v l.length (flat l) := by
 obtain ⟨_, ⟨rfl, rfl⟩ | ⟨b, off, cap, rfl, _, hc⟩ | ⟨a, cap, rfl, rfl⟩⟩ := h
 ·exact .inl ⟨rfl, rfl, rfl⟩
 ·exact .inr (.inl ⟨b, off, cap, rfl, hc.row⟩)
 ·exact .inr (.inr ⟨a, cap, rfl, rfl⟩)
def CopyTo (lo : Nat) (w : World) (g k : Nat) (ks : List (List Ins)) : Prop :=
 ∀ (i : Nat) l, i < k → ks[i]? = some l → ∃ v, w.cell? ⟨g, i, none⟩ = some v ∧ CodeIn (fun b => lo ≤ b ∧ b < w.heap.size) w v l
theorem CopyTo.step {lo : Nat} {w w1 : World} {g k : Nat} {ks : List (List Ins)} (h : CopyTo lo w g k ks) (hg : g < lo) (hz : lo ≤ w.heap.size) (hb : Below w.heap.size w w1) (v : Value) (hk : k < ks.length)
  (hv : CodeIn (fun b => lo ≤ b ∧ b < w1.heap.size) w1 v ks[k]) (hr : (w1.cell? ⟨g, k, none⟩).isSome = true) : CopyTo lo (w1.setCell ⟨g, k, none⟩ v) g (k + 1) ks := by
 have hsz : (w1.setCell ⟨g, k, none⟩ v).heap.size = w1.heap.size := by simp [World.setCell]
 have ho : Only (· = g) w1 (w1.setCell ⟨g, k, none⟩ v) := Only.setCell (S := (· = g)) (Only.refl _ _) rfl _
 have hbs := hb.size
 intro i l hi hl
 rw [hsz]
 by_cases hik : i = k
 ·subst hik
  have : l = ks[i] := by rw [List.getElem?_eq_getElem hk] at hl; exact (Option.some.inj hl).symm
  subst this
  exact ⟨v, World.cell?_setCell_same' _ _ _ hr, hv.only ho (by intro b hb; omega)⟩
 ·obtain ⟨u, h1, h2⟩ := h i l (by omega) hl
  refine ⟨u, ?_, ?_⟩
  ·rw [World.cell?_setCell_other _ _ _ _ (by simp; try omega)]; exact below_at hb h1 (by omega)
  ·exact ((h2.only (Only.new (S := fun _ => False) hb) (by simp)).mono (R' := fun b => lo ≤ b ∧ b < w1.heap.size) (by intro b hb; omega)).only ho (by intro b hb; omega)
theorem IntsIn.src {R : Nat → Prop} {w : World} {v : Value} {l : List Int} (h : IntsIn R w v l) : SrcAt w v l.length (ints l) := by
 obtain ⟨_, ⟨rfl, rfl⟩ | ⟨b, off, cap, rfl, _, hc⟩⟩ := h
 ·exact .inl ⟨rfl, rfl, rfl⟩
 ·exact .inr (.inl ⟨b, off, cap, rfl, hc⟩)
theorem Moved.trans {w w' : World} {a b c : Value} (h : Moved w a b) (h' : Moved w' b c) (hs : w.heap.size ≤ w'.heap.size) : Moved w a c := by
 rcases h' with e | ⟨g, e, hg⟩
 ·rcases h with e' | ⟨g', e', hg'⟩
  ·exact .inl (e.trans e')
  ·exact .inr ⟨g', e.trans e', hg'⟩
 ·exact .inr ⟨g, e, by omega⟩
end Go.Proofs.YtndlmgocldckfaaGreat
