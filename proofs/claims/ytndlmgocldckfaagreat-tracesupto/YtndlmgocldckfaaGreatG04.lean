import Derived.Test.YtndlmgocldckfaaGreatG03
namespace Go.Proofs.YtndlmgocldckfaaGreat
open Go.RowKit
set_option linter.unusedVariables false
set_option linter.unusedSimpArgs false
set_option maxRecDepth 100000
set_option maxHeartbeats 4000000
def reps (n : Nat) (x : List Value) : List Value := (List.replicate n x).flatten
theorem reps_length (n : Nat) (x : List Value) : (reps n x).length = n * x.length := by
 induction n with
 | zero => simp [reps]
 | succ n ih => simp [reps, List.replicate_succ] at ih ⊢; rw [Nat.add_mul]; omega
theorem reps_add (n m : Nat) (x : List Value) : reps (n + m) x = reps n x ++ reps m x := by
 simp [reps, ← List.replicate_append_replicate]
theorem reps_succ (n : Nat) (x : List Value) : reps (n + 1) x = x ++ reps n x := by simp [reps, List.replicate_succ]
theorem reps_get : ∀ (n i r : Nat) (x : List Value), r < x.length → i < n → (reps n x)[i * x.length + r]? = x[r]?
 | 0, i, r, x, _, h => by omega
 | n + 1, 0, r, x, h, _ => by rw [reps_succ, Nat.zero_mul, Nat.zero_add, List.getElem?_append_left h]
 | n + 1, i + 1, r, x, h, hi => by
  rw [reps_succ, List.getElem?_append_right (by rw [Nat.add_mul]; omega), show (i + 1) * x.length + r - x.length = i * x.length + r by rw [Nat.add_mul]; omega]
  exact reps_get n i r x h (by omega)
theorem reps_one {n : Nat} {x : List Value} (h : ∀ u ∈ x, u.oneCell' = true) : ∀ u ∈ reps n x, u.oneCell' = true := by
 intro u hu
 simp only [reps, List.mem_flatten, List.mem_replicate] at hu
 obtain ⟨l, ⟨_, rfl⟩, hu⟩ := hu
 exact h u hu
def Fill (w : World) (v : Value) (n : Nat) (xs : List Value) : Prop := ∃ a c, v = .slice a n c ∧ (n ≠ 0 → ∃ b, a = some ⟨b, 0, none⟩ ∧ RowAt w b 0 xs)
theorem Fill.of_owns {w : World} {base : Nat} {e : TypeId} {k : Nat} {v : Value} {n : Nat} {xs : List Value} (h : w.ownsRow base e k v n xs) : Fill w v n xs := by
 rcases owns_row h with ⟨rfl, rfl, rfl⟩ | ⟨g, cap, rfl, _, _, hr⟩
 ·exact ⟨none, 0, rfl, by simp⟩
 ·exact ⟨_, _, rfl, fun _ => ⟨g, rfl, hr⟩⟩
theorem Fill.only {w w' : World} {v : Value} {n : Nat} {xs : List Value} {S : Nat → Prop} (h : Fill w v n xs) (ho : Only S w w') (hS : ∀ b, some b = v.ownBlock → ¬ S b) : Fill w' v n xs := by
 obtain ⟨a, c, rfl, hx⟩ := h
 refine ⟨a, c, rfl, fun hn => ?_⟩
 obtain ⟨b, rfl, hr⟩ := hx hn
 exact ⟨b, rfl, hr.only ho (hS b rfl)⟩
theorem run_append_keeps {P : Program} {w : World} (base : Nat) (t ty e : TypeId) (i : TypeInfo) (z : Value) (ht : P.underlying t = some (.slice e)) (hi : P.info? e = some i) (hz : i.zero = some z)
  (v : Value) (n : Nat) (xs : List Value) (hown : w.ownsRow base e i.size v n xs)
  (a : Addr) (m c : Nat) (hm : 0 < m) (news : List Value) (hl : news.length = m * i.size) (hnews : ∀ j u, news[j]? = some u → w.cell? (a.add j) = some u) (h1 : ∀ u ∈ news, u.oneCell' = true)
  (h63 : n + m ≤ 9223372036854775807) (hbytes : (n + m) * i.bytes ≤ 140737488355328) (v' : Value) (w' : World)
  (hr : (Builtin.append_ #[t, t] ty #[v, .slice (some a) m c]).run P w = .ok v' w') : w'.ownsRow base e i.size v n xs ∧ ((v'.ownBlock = v.ownBlock ∧ v.ownBlock ≠ none) ∨ (Below w.heap.size w w' ∧ v'.ownBlock = some w.heap.size)) := by
 have hcells := fun g => hown.cells (g := g)
 have hO := hown
 obtain ⟨hx, ⟨rfl, rfl⟩ | ⟨g, cap, cur, rfl, hbg, hg, hnc, hcm, hcs, htake⟩⟩ := hown
 ·have h0 := run_append_nil (P := P) w t ty e i z ht hi hz a m c news hl hnews (by omega) (by omega) (by have hb := hbytes; simp only [Nat.zero_add] at hb; omega)
  rw [h0] at hr
  cases hr
  exact ⟨⟨hx, .inl ⟨rfl, rfl⟩⟩, .inr ⟨⟨rfl, rfl, rfl, by simp, fun k hk => heap_alloc_old w.drew _ hk⟩, rfl⟩⟩
 ·by_cases hroom : n + m ≤ cap
  ·have hfit : n * i.size + news.length ≤ cur.size := by rw [hl, hcs, ← Nat.add_mul]; exact Nat.mul_le_mul_right _ hroom
   have h0 := run_append_room (P := P) w t ty e i ht hi g n cap cur hg a m c news hl hnews h1 hroom hfit
   rw [h0] at hr
   cases hr
   refine ⟨⟨hx, .inr ⟨g, cap, _, rfl, hbg, setRow_heap w g cur _ e _ hg, hnc, hcm, ?_, ?_⟩⟩, .inl ⟨rfl, by simp [Value.ownBlock]⟩⟩
   ·simp only [List.size_toArray, List.length_append, List.length_take, List.length_drop, Array.length_toList]
    omega
   ·rw [List.append_assoc, List.take_append_of_le_length (by simp; omega), List.take_take, Nat.min_self]
    exact htake
  ·have h0 := run_append_grow (P := P) w t ty e i z ht hi hz ⟨g, 0, none⟩ n cap xs hx (hcells g rfl) a m c news hl hnews (by omega) (by omega) (growslice_fits (by omega) hbytes)
   rw [h0] at hr
   cases hr
   have hb : Below w.heap.size w (w.drew.alloc (.cells (xs.toArray ++ news.toArray ++ Builtin.zeroCells z.cells (grownCap w (n + m) cap e - (n + m))) e)) := ⟨rfl, rfl, rfl, by simp, fun k hk => heap_alloc_old w.drew _ hk⟩
   exact ⟨owns_keep hO (Only.new (S := fun _ => False) hb) (by simp), .inr ⟨hb, rfl⟩⟩
theorem wpList_append_keep {P : Program} {w : World} {ops : Array Oper} {rest : List Oper} {o : Oper} {a : Act} {Q : Exit → Act → World → Prop} (hgd : o.guard = none) (s x : Operand) (t : TypeId)
  (ho : o.op = .call { callee := .builtin .append, args := #[s, x], argTypes := #[t, t] })
  (base : Nat) (e : TypeId) (z : Value) (size bytes : Nat) (ht : P.underlying t = some (.slice e)) (hinfo : (P.info? e).map (fun i => (i.zero, i.size, i.bytes)) = some (some z, size, bytes))
  (hzs : z.cells.size = size) (hsz : 0 < size)
  (v : Value) (n : Nat) (xs : List Value) (hs : a.eval s = v) (hown : w.ownsRow base e size v n xs)
  (b m c : Nat) (hm : 0 < m) (news : List Value) (hx : a.eval x = .slice (some ⟨b, 0, none⟩) m c) (hsrc : RowAt w b 0 news) (hl : news.length = m * size) (h1 : ∀ u ∈ news, u.oneCell' = true)
  (hbytes : (n + m) * bytes ≤ 140737488355328) (h63 : n + m ≤ 9223372036854775807) (hbase : base ≤ w.heap.size)
  (h : ∀ v' w', Hid (w'.ownsRow base e size v' (n + m) (xs ++ news)) → Hid (w.grownBy w' v.ownBlock) → Hid (w'.ownsRow base e size v n xs ∧ ((v'.ownBlock = v.ownBlock ∧ v.ownBlock ≠ none) ∨ (Below w.heap.size w w' ∧ v'.ownBlock = some w.heap.size))) → wpList P ops Q rest (a.put o.dst v') w') : wpList P ops Q (o :: rest) a w := by
 obtain ⟨i, hi, hz, hsz', hby⟩ := info_parts hinfo
 have hnews : ∀ j u, news[j]? = some u → w.cell? (Addr.add ⟨b, 0, none⟩ j) = some u := fun j u hu => by rw [Addr.add_lit]; exact hsrc j u hu
 subst hsz'
 subst hby
 obtain ⟨v', w', hr, h2, h3, h4⟩ := run_append_own (P := P) w base t o.type e i z i.size i.bytes ht hi hz rfl rfl hzs hsz v n xs hown ⟨b, 0, none⟩ m c news hl hnews h1 (by simp only [maxLen]; omega) hbytes hbase
 have h5 := run_append_keeps base t o.type e i z ht hi hz v n xs hown ⟨b, 0, none⟩ m c hm news hl hnews h1 h63 hbytes v' w' hr
 refine wpList_plain hgd fun K hK => ?_
 unfold Oper.wp
 simp [execOp, ho, resolve, invoke, builtin, hs, hx, hr, Result.andThen]
 exact hK _ _ (h v' w' h2 h3 h5)
theorem Fill.beside {w w' : World} {base : Nat} {e : TypeId} {k : Nat} {l v v1 : Value} {n m d : Nat} {x : List Value} (hk : x.length = k) (h1 : Fill w v1 (n + m) (reps (n + m) x)) (hmd : m ≤ d)
  (hown : w'.ownsRow base e k v (n + d) (reps (n + d) x)) (hg : w.grownBy w' l.ownBlock) (hor : (v.ownBlock = l.ownBlock ∧ l.ownBlock ≠ none) ∨ (Below w.heap.size w w' ∧ v.ownBlock = some w.heap.size)) : Fill w' v1 (n + m) (reps (n + m) x) := by
 rcases hor with ⟨he, _⟩ | ⟨hb, _⟩
 ·obtain ⟨a, c, rfl, hx⟩ := h1
  refine ⟨a, c, rfl, fun hn => ?_⟩
  obtain ⟨b, rfl, hr⟩ := hx hn
  refine ⟨b, rfl, ?_⟩
  by_cases hbl : some b = l.ownBlock
  ·obtain ⟨a2, c2, rfl, hx2⟩ := Fill.of_owns hown
   obtain ⟨b2, rfl, hr2⟩ := hx2 (by omega)
   have e2 : b2 = b := by
    have : some b2 = some b := he.trans hbl.symm
    exact Option.some.inj this
   subst e2
   intro j u hu
   refine hr2 j u ?_
   rw [show n + d = (n + m) + (d - m) by omega, reps_add, List.getElem?_append_left (List.getElem?_eq_some_iff.1 hu).1]
   exact hu
  ·exact hr.only (only_of_grown hg) hbl
 ·exact h1.only (Only.new (S := fun _ => False) hb) (by simp)
theorem owns_set {w : World} {base : Nat} {e : TypeId} {k : Nat} {g n cap : Nat} {xs : List Value} (h : w.ownsRow base e k (.slice (some ⟨g, 0, none⟩) n cap) n xs) (j : Nat) (u : Value) : ∃ ys, (w.setCell ⟨g, j, none⟩ u).ownsRow base e k (.slice (some ⟨g, 0, none⟩) n cap) n ys := by
 obtain ⟨hx, ⟨hc, _⟩ | ⟨g', cap', cur, hv, hbg, hg, hnc, hcm, hcs, htake⟩⟩ := h
 ·simp at hc
 ·simp only [Value.slice.injEq, Option.some.injEq, Addr.mk.injEq, and_true, true_and] at hv
  obtain ⟨rfl, rfl⟩ := hv
  have hgl := (Array.getElem?_eq_some_iff.1 hg).1
  have hnk : n * k ≤ cap * k := Nat.mul_le_mul_right _ hnc
  refine ⟨(cur.setIfInBounds j u).toList.take (n * k), ?_, .inr ⟨g, cap, cur.setIfInBounds j u, rfl, hbg, ?_, hnc, hcm, by simpa using hcs, rfl⟩⟩
  ·simp; omega
  ·exact heap_setCell_same w g j cur e u hg
theorem owns_reads {w : World} {base : Nat} {e : TypeId} {k : Nat} {g n cap : Nat} {xs ys : List Value} (h : w.ownsRow base e k (.slice (some ⟨g, 0, none⟩) n cap) n xs) (hy : RowAt w g 0 ys) (hl : ys.length = n * k) : w.ownsRow base e k (.slice (some ⟨g, 0, none⟩) n cap) n ys := by
 have hx := h.1
 have he : xs = ys := by
  refine List.ext_getElem? fun j => ?_
  by_cases hj : j < n * k
  ·have a1 := h.cells (g := g) rfl j xs[j] (List.getElem?_eq_getElem (by omega))
   have a2 := hy j ys[j] (List.getElem?_eq_getElem (by omega))
   rw [Addr.add_lit] at a1
   rw [a1] at a2
   rw [List.getElem?_eq_getElem (by omega), List.getElem?_eq_getElem (by omega)]
   exact a2
  ·rw [List.getElem?_eq_none (by omega), List.getElem?_eq_none (by omega)]
 rw [← he]; exact h
def Free (w : World) (v : Value) : Prop := ∀ b, some b = v.ownBlock → b < w.heap.size ∧ ∀ j u, w.cell? ⟨b, j, none⟩ = some u → w.frozen? ⟨b, j, none⟩ = false
theorem Free.only {w w' : World} {v : Value} {S : Nat → Prop} (h : Free w v) (ho : Only S w w') (hS : ∀ b, some b = v.ownBlock → ¬ S b) : Free w' v := by
 intro b hb
 obtain ⟨h1, h2⟩ := h b hb
 have hz := ho.size
 refine ⟨by omega, fun j u hu => ?_⟩
 have hB := ho.block b h1 (hS b hb)
 rw [World.frozen?_of_block (w := w) (a := ⟨b, j, none⟩) hB]
 rw [World.cell?_of_block (w := w) (a := ⟨b, j, none⟩) hB] at hu
 exact h2 j u hu
def markB (i : Nat) : List Value := [.int .u8 (200 + ((i / 4 % 50 : Nat) : Int))]
def markI (i : Nat) : List Value := [.int .i64 (-1000 - ((i / 4 : Nat) : Int))]
def markR (i : Nat) : List Value := [.int .i64 (-1000 - ((i / 4 : Nat) : Int)), .int .i64 0, .int .i64 0, .int .i64 0, .slice none 0 0]
structure BkD where
 bv : Value
 iv : Value
 rv : Value
 bl : List Value
 il : List Value
 rl : List Value
def BkD.ents (k : BkD) (b : Nat) : Prop := ∃ v, (v ∈ k.bl ∨ v ∈ k.il ∨ v ∈ k.rl) ∧ some b = v.ownBlock
def BkD.rows (k : BkD) (b : Nat) : Prop := some b = k.bv.ownBlock ∨ some b = k.iv.ownBlock ∨ some b = k.rv.ownBlock
def BkD.set (k : BkD) (b : Nat) : Prop := k.ents b ∨ k.rows b
structure BkOK (w : World) (k : BkD) : Prop where
 bown : w.ownsRow 0 56 1 k.bv k.bl.length k.bl
 iown : w.ownsRow 0 24 1 k.iv k.il.length k.il
 rown : w.ownsRow 0 39 1 k.rv k.rl.length k.rl
 bent : ∀ (i : Nat) v, k.bl[i]? = some v → ∃ n, n ≤ 1000000000 ∧ Fill w v n (reps n (markB i))
 ient : ∀ (i : Nat) v, k.il[i]? = some v → ∃ n, n ≤ 1000000000 ∧ Fill w v n (reps n (markI i))
 rent : ∀ (i : Nat) v, k.rl[i]? = some v → ∃ n, n ≤ 1000000000 ∧ Fill w v n (reps n (markR i))
 elt : ∀ b, k.ents b → b < w.heap.size
 sep : ∀ b, k.ents b → ¬ k.rows b
 bi : ∀ b, some b = k.bv.ownBlock → some b ≠ k.iv.ownBlock
 br : ∀ b, some b = k.bv.ownBlock → some b ≠ k.rv.ownBlock
 ir : ∀ b, some b = k.iv.ownBlock → some b ≠ k.rv.ownBlock
 free : ∀ v ∈ k.bl, Free w v
 bsep : ∀ (i j : Nat) v u b, k.bl[i]? = some v → k.bl[j]? = some u → some b = v.ownBlock → some b = u.ownBlock → i / 4 = j / 4
theorem BkOK.lt {w : World} {k : BkD} (h : BkOK w k) : ∀ b, k.set b → b < w.heap.size := by
 rintro b (hb | hb | hb | hb)
 ·exact h.elt b hb
 ·exact (h.bown.lt b hb.symm).2
 ·exact (h.iown.lt b hb.symm).2
 ·exact (h.rown.lt b hb.symm).2
theorem BkOK.only {w w' : World} {k : BkD} {S : Nat → Prop} (h : BkOK w k) (ho : Only S w w') (hS : ∀ b, k.set b → ¬ S b) : BkOK w' k := by
 have hz := ho.size
 refine ⟨owns_keep h.bown ho (fun b hb => hS b (.inr (.inl hb))), owns_keep h.iown ho (fun b hb => hS b (.inr (.inr (.inl hb)))), owns_keep h.rown ho (fun b hb => hS b (.inr (.inr (.inr hb)))), ?_, ?_, ?_, fun b hb => by have := h.elt b hb; omega, h.sep, h.bi, h.br, h.ir, fun v hv => (h.free v hv).only ho (fun b hb => hS b (.inl ⟨v, .inl hv, hb⟩)), h.bsep⟩
 ·intro i v hv
  obtain ⟨n, hl, hn⟩ := h.bent i v hv
  exact ⟨n, hl, hn.only ho (fun b hb => hS b (.inl ⟨v, .inl (List.mem_of_getElem? hv), hb⟩))⟩
 ·intro i v hv
  obtain ⟨n, hl, hn⟩ := h.ient i v hv
  exact ⟨n, hl, hn.only ho (fun b hb => hS b (.inl ⟨v, .inr (.inl (List.mem_of_getElem? hv)), hb⟩))⟩
 ·intro i v hv
  obtain ⟨n, hl, hn⟩ := h.rent i v hv
  exact ⟨n, hl, hn.only ho (fun b hb => hS b (.inl ⟨v, .inr (.inr (List.mem_of_getElem? hv)), hb⟩))⟩
theorem BkOK.pushB {w W w2 : World} {k : BkD} {wb : Nat} {v v' : Value} {n : Nat} (h : BkOK w k) (hB : Below w.heap.size w W) (hg : W.grownBy w2 k.bv.ownBlock) (hown : w2.ownsRow 0 56 1 v' (k.bl.length + 1) (k.bl ++ [v])) (hwh : v'.ownBlock = k.bv.ownBlock ∨ v'.ownBlock = some W.heap.size)
  (hn : n ≤ 1000000000) (hv : Fill w v n (reps n (markB k.bl.length))) (hfr : Free w v) (hsp : ∀ (j : Nat) u b, k.bl[j]? = some u → some b = v.ownBlock → some b = u.ownBlock → j / 4 = k.bl.length / 4) (hvs : ∀ b, some b = v.ownBlock → b < w.heap.size ∧ ¬ k.rows b ∧ b ≠ wb) (hwb : ¬ k.set wb) (hwl : wb < w.heap.size) :
  BkOK (w2.setCell ⟨wb, 1, none⟩ v') { k with bv := v', bl := k.bl ++ [v] } ∧ Only (fun b => b = wb ∨ some b = k.bv.ownBlock) w (w2.setCell ⟨wb, 1, none⟩ v') ∧ (∀ b, b < w.heap.size → ¬ k.rows b → ¬ ({ k with bv := v', bl := k.bl ++ [v] } : BkD).rows b) ∧ ¬ ({ k with bv := v', bl := k.bl ++ [v] } : BkD).set wb ∧
  (∀ b, ({ k with bv := v', bl := k.bl ++ [v] } : BkD).set b → k.set b ∨ some b = v.ownBlock ∨ w.heap.size ≤ b) := by
 have hz := hB.size
 have hz2 := hg.size
 have ho : Only (fun b => some b = k.bv.ownBlock) w w2 := (Only.new hB).trans (only_of_grown hg)
 have hs : Only (· = wb) w2 (w2.setCell ⟨wb, 1, none⟩ v') := Only.setCell (S := (· = wb)) (Only.refl _ _) rfl _
 have hoa : Only (fun b => b = wb ∨ some b = k.bv.ownBlock) w (w2.setCell ⟨wb, 1, none⟩ v') := (ho.mono (fun b _ hb => .inr hb)).trans (hs.mono (fun b _ hb => .inl hb))
 have hsz : (w2.setCell ⟨wb, 1, none⟩ v').heap.size = w2.heap.size := by simp [World.setCell]
 have hmv : ∀ b, b < w.heap.size → some b = v'.ownBlock → some b = k.bv.ownBlock := by
  intro b hb e
  rcases hwh with e' | e'
  ·rw [← e']; exact e
  ·rw [e'] at e; have := Option.some.inj e; omega
 have hrows : ∀ b, b < w.heap.size → ¬ k.rows b → ¬ ({ k with bv := v', bl := k.bl ++ [v] } : BkD).rows b := by
  intro b hb hnr hc
  refine hnr ?_
  rcases hc with hc | hc | hc
  ·exact .inl (hmv b hb hc)
  ·exact .inr (.inl hc)
  ·exact .inr (.inr hc)
 have hents : ∀ b, ({ k with bv := v', bl := k.bl ++ [v] } : BkD).ents b → k.ents b ∨ some b = v.ownBlock := by
  rintro b ⟨x, hx, hb⟩
  rcases hx with hx | hx | hx
  ·rcases List.mem_append.1 hx with hx | hx
   ·exact .inl ⟨x, .inl hx, hb⟩
   ·simp at hx; subst hx; exact .inr hb
  ·exact .inl ⟨x, .inr (.inl hx), hb⟩
  ·exact .inl ⟨x, .inr (.inr hx), hb⟩
 have hset : ∀ b, ({ k with bv := v', bl := k.bl ++ [v] } : BkD).set b → k.set b ∨ some b = v.ownBlock ∨ w.heap.size ≤ b := by
  rintro b (hb | hb)
  ·rcases hents b hb with hb | hb
   ·exact .inl (.inl hb)
   ·exact .inr (.inl hb)
  ·by_cases hl : b < w.heap.size
   ·by_cases hr : k.rows b
    ·exact .inl (.inr hr)
    ·exact absurd hb (hrows b hl hr)
   ·exact .inr (.inr (by omega))
 have hnw : ∀ b, k.set b → b ≠ wb := fun b hb e => hwb (e ▸ hb)
 have hvw : v'.ownBlock ≠ some wb := by
  intro e
  have := hmv wb hwl e.symm
  exact hwb (.inr (.inl this))
 have hkeep : ∀ b, k.set b → some b ≠ k.bv.ownBlock → ¬ (b = wb ∨ some b = k.bv.ownBlock) := by
  rintro b hb hne (e | e)
  ·exact hnw b hb e
  ·exact hne e
 have hent : ∀ b, k.ents b → some b ≠ k.bv.ownBlock := fun b hb e => h.sep b hb (.inl e)
 refine ⟨⟨?_, owns_keep h.iown hoa (fun b hb => hkeep b (.inr (.inr (.inl hb))) (fun e => h.bi b e hb)), owns_keep h.rown hoa (fun b hb => hkeep b (.inr (.inr (.inr hb))) (fun e => h.br b e hb)), ?_, ?_, ?_, ?_, ?_, ?_, ?_, ?_, ?_, ?_⟩, hoa, hrows, ?_, hset⟩
 ·rw [List.length_append]; exact owns_keep hown hs (fun b hb e => hvw (by rw [← hb, e]))
 ·intro i x hx
  by_cases hi : i < k.bl.length
  ·rw [List.getElem?_append_left hi] at hx
   obtain ⟨n, hl, hf⟩ := h.bent i x hx
   exact ⟨n, hl, hf.only hoa (fun b hb => hkeep b (.inl ⟨x, .inl (List.mem_of_getElem? hx), hb⟩) (hent b ⟨x, .inl (List.mem_of_getElem? hx), hb⟩))⟩
  ·rw [List.getElem?_append_right (by omega)] at hx
   have hi0 : i - k.bl.length = 0 := by
    have := (List.getElem?_eq_some_iff.1 hx).1
    simp at this; omega
   rw [hi0] at hx
   simp at hx
   subst hx
   have hie : i = k.bl.length := by omega
   subst hie
   refine ⟨n, hn, hv.only hoa ?_⟩
   rintro b hb (e | e)
   ·exact (hvs b hb).2.2 e
   ·exact (hvs b hb).2.1 (.inl e)
 ·intro i x hx
  obtain ⟨n, hl, hf⟩ := h.ient i x hx
  exact ⟨n, hl, hf.only hoa (fun b hb => hkeep b (.inl ⟨x, .inr (.inl (List.mem_of_getElem? hx)), hb⟩) (hent b ⟨x, .inr (.inl (List.mem_of_getElem? hx)), hb⟩))⟩
 ·intro i x hx
  obtain ⟨n, hl, hf⟩ := h.rent i x hx
  exact ⟨n, hl, hf.only hoa (fun b hb => hkeep b (.inl ⟨x, .inr (.inr (List.mem_of_getElem? hx)), hb⟩) (hent b ⟨x, .inr (.inr (List.mem_of_getElem? hx)), hb⟩))⟩
 ·intro b hb
  rw [hsz]
  rcases hents b hb with hb | hb
  ·have := h.elt b hb; omega
  ·have := (hvs b hb).1; omega
 ·intro b hb
  rcases hents b hb with hb | hb
  ·exact hrows b (h.elt b hb) (h.sep b hb)
  ·exact hrows b (hvs b hb).1 (hvs b hb).2.1
 ·intro b hb hc
  have hl := (h.iown.lt b hc.symm).2
  exact h.bi b (hmv b hl hb) hc
 ·intro b hb hc
  have hl := (h.rown.lt b hc.symm).2
  exact h.br b (hmv b hl hb) hc
 ·intro b hb hc
  exact h.ir b hb hc
 ·intro x hx
  rcases List.mem_append.1 hx with hx | hx
  ·exact (h.free x hx).only hoa (fun b hb => hkeep b (.inl ⟨x, .inl hx, hb⟩) (hent b ⟨x, .inl hx, hb⟩))
  ·simp at hx
   subst hx
   refine hfr.only hoa ?_
   rintro b hb (e | e)
   ·exact (hvs b hb).2.2 e
   ·exact (hvs b hb).2.1 (.inl e)
 ·have hlast : ∀ (i : Nat) x, (k.bl ++ [v])[i]? = some x → (i < k.bl.length ∧ k.bl[i]? = some x) ∨ (i = k.bl.length ∧ x = v) := by
   intro i x hx
   by_cases hi : i < k.bl.length
   ·rw [List.getElem?_append_left hi] at hx; exact .inl ⟨hi, hx⟩
   ·rw [List.getElem?_append_right (by omega)] at hx
    have hi0 : i - k.bl.length = 0 := by
     have := (List.getElem?_eq_some_iff.1 hx).1
     simp at this; omega
    rw [hi0] at hx
    simp at hx
    exact .inr ⟨by omega, hx.symm⟩
  intro i j x y b hx hy hb1 hb2
  rcases hlast i x hx with ⟨_, hx1⟩ | ⟨hx1, rfl⟩ <;> rcases hlast j y hy with ⟨_, hy1⟩ | ⟨hy1, rfl⟩
  ·exact h.bsep i j x y b hx1 hy1 hb1 hb2
  ·rw [hy1]; exact hsp i x b hx1 hb2 hb1
  ·rw [hx1]; exact (hsp j y b hy1 hb1 hb2).symm
  ·rw [hx1, hy1]
 ·intro hc
  rcases hset wb hc with hc | hc | hc
  ·exact hwb hc
  ·exact (hvs wb hc).2.2 rfl
  ·omega
theorem BkOK.pushI {w W w2 : World} {k : BkD} {wb : Nat} {v v' : Value} {n : Nat} (h : BkOK w k) (hB : Below w.heap.size w W) (hg : W.grownBy w2 k.iv.ownBlock) (hown : w2.ownsRow 0 24 1 v' (k.il.length + 1) (k.il ++ [v])) (hwh : v'.ownBlock = k.iv.ownBlock ∨ v'.ownBlock = some W.heap.size)
  (hn : n ≤ 1000000000) (hv : Fill w v n (reps n (markI k.il.length))) (hvs : ∀ b, some b = v.ownBlock → b < w.heap.size ∧ ¬ k.rows b ∧ b ≠ wb) (hwb : ¬ k.set wb) (hwl : wb < w.heap.size) :
  BkOK (w2.setCell ⟨wb, 2, none⟩ v') { k with iv := v', il := k.il ++ [v] } ∧ Only (fun b => b = wb ∨ some b = k.iv.ownBlock) w (w2.setCell ⟨wb, 2, none⟩ v') ∧ (∀ b, b < w.heap.size → ¬ k.rows b → ¬ ({ k with iv := v', il := k.il ++ [v] } : BkD).rows b) ∧ ¬ ({ k with iv := v', il := k.il ++ [v] } : BkD).set wb ∧
  (∀ b, ({ k with iv := v', il := k.il ++ [v] } : BkD).set b → k.set b ∨ some b = v.ownBlock ∨ w.heap.size ≤ b) := by
 have hz := hB.size
 have hz2 := hg.size
 have ho : Only (fun b => some b = k.iv.ownBlock) w w2 := (Only.new hB).trans (only_of_grown hg)
 have hs : Only (· = wb) w2 (w2.setCell ⟨wb, 2, none⟩ v') := Only.setCell (S := (· = wb)) (Only.refl _ _) rfl _
 have hoa : Only (fun b => b = wb ∨ some b = k.iv.ownBlock) w (w2.setCell ⟨wb, 2, none⟩ v') := (ho.mono (fun b _ hb => .inr hb)).trans (hs.mono (fun b _ hb => .inl hb))
 have hsz : (w2.setCell ⟨wb, 2, none⟩ v').heap.size = w2.heap.size := by simp [World.setCell]
 have hmv : ∀ b, b < w.heap.size → some b = v'.ownBlock → some b = k.iv.ownBlock := by
  intro b hb e
  rcases hwh with e' | e'
  ·rw [← e']; exact e
  ·rw [e'] at e; have := Option.some.inj e; omega
 have hrows : ∀ b, b < w.heap.size → ¬ k.rows b → ¬ ({ k with iv := v', il := k.il ++ [v] } : BkD).rows b := by
  intro b hb hnr hc
  refine hnr ?_
  rcases hc with hc | hc | hc
  ·exact .inl hc
  ·exact .inr (.inl (hmv b hb hc))
  ·exact .inr (.inr hc)
 have hents : ∀ b, ({ k with iv := v', il := k.il ++ [v] } : BkD).ents b → k.ents b ∨ some b = v.ownBlock := by
  rintro b ⟨x, hx, hb⟩
  rcases hx with hx | hx | hx
  ·exact .inl ⟨x, .inl hx, hb⟩
  ·rcases List.mem_append.1 hx with hx | hx
   ·exact .inl ⟨x, .inr (.inl hx), hb⟩
   ·simp at hx; subst hx; exact .inr hb
  ·exact .inl ⟨x, .inr (.inr hx), hb⟩
 have hset : ∀ b, ({ k with iv := v', il := k.il ++ [v] } : BkD).set b → k.set b ∨ some b = v.ownBlock ∨ w.heap.size ≤ b := by
  rintro b (hb | hb)
  ·rcases hents b hb with hb | hb
   ·exact .inl (.inl hb)
   ·exact .inr (.inl hb)
  ·by_cases hl : b < w.heap.size
   ·by_cases hr : k.rows b
    ·exact .inl (.inr hr)
    ·exact absurd hb (hrows b hl hr)
   ·exact .inr (.inr (by omega))
 have hnw : ∀ b, k.set b → b ≠ wb := fun b hb e => hwb (e ▸ hb)
 have hvw : v'.ownBlock ≠ some wb := by
  intro e
  have := hmv wb hwl e.symm
  exact hwb (.inr (.inr <| .inl this))
 have hkeep : ∀ b, k.set b → some b ≠ k.iv.ownBlock → ¬ (b = wb ∨ some b = k.iv.ownBlock) := by
  rintro b hb hne (e | e)
  ·exact hnw b hb e
  ·exact hne e
 have hent : ∀ b, k.ents b → some b ≠ k.iv.ownBlock := fun b hb e => h.sep b hb (.inr <| .inl e)
 refine ⟨⟨owns_keep h.bown hoa (fun b hb => hkeep b (.inr (.inl hb)) (h.bi b hb)), ?_, owns_keep h.rown hoa (fun b hb => hkeep b (.inr (.inr (.inr hb))) (fun e => h.ir b e hb)), ?_, ?_, ?_, ?_, ?_, ?_, ?_, ?_, fun v hv => (h.free v hv).only hoa (fun b hb => hkeep b (.inl ⟨v, .inl hv, hb⟩) (hent b ⟨v, .inl hv, hb⟩)), h.bsep⟩, hoa, hrows, ?_, hset⟩
 ·rw [List.length_append]; exact owns_keep hown hs (fun b hb e => hvw (by rw [← hb, e]))
 ·intro i x hx
  obtain ⟨n, hl, hf⟩ := h.bent i x hx
  exact ⟨n, hl, hf.only hoa (fun b hb => hkeep b (.inl ⟨x, .inl (List.mem_of_getElem? hx), hb⟩) (hent b ⟨x, .inl (List.mem_of_getElem? hx), hb⟩))⟩
 ·intro i x hx
  by_cases hi : i < k.il.length
  ·rw [List.getElem?_append_left hi] at hx
   obtain ⟨n, hl, hf⟩ := h.ient i x hx
   exact ⟨n, hl, hf.only hoa (fun b hb => hkeep b (.inl ⟨x, .inr (.inl (List.mem_of_getElem? hx)), hb⟩) (hent b ⟨x, .inr (.inl (List.mem_of_getElem? hx)), hb⟩))⟩
  ·rw [List.getElem?_append_right (by omega)] at hx
   have hi0 : i - k.il.length = 0 := by
    have := (List.getElem?_eq_some_iff.1 hx).1
    simp at this; omega
   rw [hi0] at hx
   simp at hx
   subst hx
   have hie : i = k.il.length := by omega
   subst hie
   refine ⟨n, hn, hv.only hoa ?_⟩
   rintro b hb (e | e)
   ·exact (hvs b hb).2.2 e
   ·exact (hvs b hb).2.1 (.inr <| .inl e)
 ·intro i x hx
  obtain ⟨n, hl, hf⟩ := h.rent i x hx
  exact ⟨n, hl, hf.only hoa (fun b hb => hkeep b (.inl ⟨x, .inr (.inr (List.mem_of_getElem? hx)), hb⟩) (hent b ⟨x, .inr (.inr (List.mem_of_getElem? hx)), hb⟩))⟩
 ·intro b hb
  rw [hsz]
  rcases hents b hb with hb | hb
  ·have := h.elt b hb; omega
  ·have := (hvs b hb).1; omega
 ·intro b hb
  rcases hents b hb with hb | hb
  ·exact hrows b (h.elt b hb) (h.sep b hb)
  ·exact hrows b (hvs b hb).1 (hvs b hb).2.1
 ·intro b hb hc
  have hl := (h.bown.lt b hb.symm).2
  exact h.bi b hb (hmv b hl hc)
 ·intro b hb hc
  exact h.br b hb hc
 ·intro b hb hc
  have hl := (h.rown.lt b hc.symm).2
  exact h.ir b (hmv b hl hb) hc
 ·intro hc
  rcases hset wb hc with hc | hc | hc
  ·exact hwb hc
  ·exact (hvs wb hc).2.2 rfl
  ·omega
theorem BkOK.pushR {w W w2 : World} {k : BkD} {wb : Nat} {v v' : Value} {n : Nat} (h : BkOK w k) (hB : Below w.heap.size w W) (hg : W.grownBy w2 k.rv.ownBlock) (hown : w2.ownsRow 0 39 1 v' (k.rl.length + 1) (k.rl ++ [v])) (hwh : v'.ownBlock = k.rv.ownBlock ∨ v'.ownBlock = some W.heap.size)
  (hn : n ≤ 1000000000) (hv : Fill w v n (reps n (markR k.rl.length))) (hvs : ∀ b, some b = v.ownBlock → b < w.heap.size ∧ ¬ k.rows b ∧ b ≠ wb) (hwb : ¬ k.set wb) (hwl : wb < w.heap.size) :
  BkOK (w2.setCell ⟨wb, 3, none⟩ v') { k with rv := v', rl := k.rl ++ [v] } ∧ Only (fun b => b = wb ∨ some b = k.rv.ownBlock) w (w2.setCell ⟨wb, 3, none⟩ v') ∧ (∀ b, b < w.heap.size → ¬ k.rows b → ¬ ({ k with rv := v', rl := k.rl ++ [v] } : BkD).rows b) ∧ ¬ ({ k with rv := v', rl := k.rl ++ [v] } : BkD).set wb ∧
  (∀ b, ({ k with rv := v', rl := k.rl ++ [v] } : BkD).set b → k.set b ∨ some b = v.ownBlock ∨ w.heap.size ≤ b) := by
 have hz := hB.size
 have hz2 := hg.size
 have ho : Only (fun b => some b = k.rv.ownBlock) w w2 := (Only.new hB).trans (only_of_grown hg)
 have hs : Only (· = wb) w2 (w2.setCell ⟨wb, 3, none⟩ v') := Only.setCell (S := (· = wb)) (Only.refl _ _) rfl _
 have hoa : Only (fun b => b = wb ∨ some b = k.rv.ownBlock) w (w2.setCell ⟨wb, 3, none⟩ v') := (ho.mono (fun b _ hb => .inr hb)).trans (hs.mono (fun b _ hb => .inl hb))
 have hsz : (w2.setCell ⟨wb, 3, none⟩ v').heap.size = w2.heap.size := by simp [World.setCell]
 have hmv : ∀ b, b < w.heap.size → some b = v'.ownBlock → some b = k.rv.ownBlock := by
  intro b hb e
  rcases hwh with e' | e'
  ·rw [← e']; exact e
  ·rw [e'] at e; have := Option.some.inj e; omega
 have hrows : ∀ b, b < w.heap.size → ¬ k.rows b → ¬ ({ k with rv := v', rl := k.rl ++ [v] } : BkD).rows b := by
  intro b hb hnr hc
  refine hnr ?_
  rcases hc with hc | hc | hc
  ·exact .inl hc
  ·exact .inr (.inl hc)
  ·exact .inr (.inr (hmv b hb hc))
 have hents : ∀ b, ({ k with rv := v', rl := k.rl ++ [v] } : BkD).ents b → k.ents b ∨ some b = v.ownBlock := by
  rintro b ⟨x, hx, hb⟩
  rcases hx with hx | hx | hx
  ·exact .inl ⟨x, .inl hx, hb⟩
  ·exact .inl ⟨x, .inr (.inl hx), hb⟩
  ·rcases List.mem_append.1 hx with hx | hx
   ·exact .inl ⟨x, .inr (.inr hx), hb⟩
   ·simp at hx; subst hx; exact .inr hb
 have hset : ∀ b, ({ k with rv := v', rl := k.rl ++ [v] } : BkD).set b → k.set b ∨ some b = v.ownBlock ∨ w.heap.size ≤ b := by
  rintro b (hb | hb)
  ·rcases hents b hb with hb | hb
   ·exact .inl (.inl hb)
   ·exact .inr (.inl hb)
  ·by_cases hl : b < w.heap.size
   ·by_cases hr : k.rows b
    ·exact .inl (.inr hr)
    ·exact absurd hb (hrows b hl hr)
   ·exact .inr (.inr (by omega))
 have hnw : ∀ b, k.set b → b ≠ wb := fun b hb e => hwb (e ▸ hb)
 have hvw : v'.ownBlock ≠ some wb := by
  intro e
  have := hmv wb hwl e.symm
  exact hwb (.inr (.inr <| .inr this))
 have hkeep : ∀ b, k.set b → some b ≠ k.rv.ownBlock → ¬ (b = wb ∨ some b = k.rv.ownBlock) := by
  rintro b hb hne (e | e)
  ·exact hnw b hb e
  ·exact hne e
 have hent : ∀ b, k.ents b → some b ≠ k.rv.ownBlock := fun b hb e => h.sep b hb (.inr <| .inr e)
 refine ⟨⟨owns_keep h.bown hoa (fun b hb => hkeep b (.inr (.inl hb)) (h.br b hb)), owns_keep h.iown hoa (fun b hb => hkeep b (.inr (.inr (.inl hb))) (h.ir b hb)), ?_, ?_, ?_, ?_, ?_, ?_, ?_, ?_, ?_, fun v hv => (h.free v hv).only hoa (fun b hb => hkeep b (.inl ⟨v, .inl hv, hb⟩) (hent b ⟨v, .inl hv, hb⟩)), h.bsep⟩, hoa, hrows, ?_, hset⟩
 ·rw [List.length_append]; exact owns_keep hown hs (fun b hb e => hvw (by rw [← hb, e]))
 ·intro i x hx
  obtain ⟨n, hl, hf⟩ := h.bent i x hx
  exact ⟨n, hl, hf.only hoa (fun b hb => hkeep b (.inl ⟨x, .inl (List.mem_of_getElem? hx), hb⟩) (hent b ⟨x, .inl (List.mem_of_getElem? hx), hb⟩))⟩
 ·intro i x hx
  obtain ⟨n, hl, hf⟩ := h.ient i x hx
  exact ⟨n, hl, hf.only hoa (fun b hb => hkeep b (.inl ⟨x, .inr (.inl (List.mem_of_getElem? hx)), hb⟩) (hent b ⟨x, .inr (.inl (List.mem_of_getElem? hx)), hb⟩))⟩
 ·intro i x hx
  by_cases hi : i < k.rl.length
  ·rw [List.getElem?_append_left hi] at hx
   obtain ⟨n, hl, hf⟩ := h.rent i x hx
   exact ⟨n, hl, hf.only hoa (fun b hb => hkeep b (.inl ⟨x, .inr (.inr (List.mem_of_getElem? hx)), hb⟩) (hent b ⟨x, .inr (.inr (List.mem_of_getElem? hx)), hb⟩))⟩
  ·rw [List.getElem?_append_right (by omega)] at hx
   have hi0 : i - k.rl.length = 0 := by
    have := (List.getElem?_eq_some_iff.1 hx).1
    simp at this; omega
   rw [hi0] at hx
   simp at hx
   subst hx
   have hie : i = k.rl.length := by omega
   subst hie
   refine ⟨n, hn, hv.only hoa ?_⟩
   rintro b hb (e | e)
   ·exact (hvs b hb).2.2 e
   ·exact (hvs b hb).2.1 (.inr <| .inr e)
 ·intro b hb
  rw [hsz]
  rcases hents b hb with hb | hb
  ·have := h.elt b hb; omega
  ·have := (hvs b hb).1; omega
 ·intro b hb
  rcases hents b hb with hb | hb
  ·exact hrows b (h.elt b hb) (h.sep b hb)
  ·exact hrows b (hvs b hb).1 (hvs b hb).2.1
 ·intro b hb hc
  exact h.bi b hb hc
 ·intro b hb hc
  have hl := (h.bown.lt b hb.symm).2
  exact h.br b hb (hmv b hl hc)
 ·intro b hb hc
  have hl := (h.iown.lt b hb.symm).2
  exact h.ir b hb (hmv b hl hc)
 ·intro hc
  rcases hset wb hc with hc | hc | hc
  ·exact hwb hc
  ·exact (hvs wb hc).2.2 rfl
  ·omega
theorem owns_formK {w : World} {base : Nat} {e : TypeId} {size : Nat} {v : Value} {n : Nat} {xs : List Value} (h : w.ownsRow base e size v n xs) : ∃ sa sc, v = .slice sa n sc := by
 obtain ⟨_, ⟨rfl, rfl⟩ | ⟨g, cap, cur, rfl, _⟩⟩ := h
 ·exact ⟨_, _, rfl⟩
 ·exact ⟨_, _, rfl⟩
theorem row_new (w : World) (T : TypeId) (xs : List Value) : RowAt (w.alloc (.cells xs.toArray T)) w.heap.size 0 xs := by
 intro j u hu
 rw [Nat.zero_add, cell_of_row _ w.heap.size j xs.toArray T (0, 0) (heap_alloc_new w _)]
 simpa using hu
theorem alloc_below (w : World) (o : Obj) : Below w.heap.size w (w.alloc o) := (Below.refl _ _).alloc (Nat.le_refl _) _
theorem sized {W : World} {a b : Nat} {xs : List Value} (h : a = b) (hr : RowAt W a 0 xs) : RowAt W b 0 xs := h ▸ hr
theorem own_cast {w : World} {base : Nat} {e : TypeId} {size : Nat} {v v' : Value} {n : Nat} {xs : List Value} (he : v = v') (h : w.ownsRow base e size v n xs) : w.ownsRow base e size v' n xs := he ▸ h
end Go.Proofs.YtndlmgocldckfaaGreat
