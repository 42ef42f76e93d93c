import Derived.Test.YtndlmgocldckfaaGreatG04
import Derived.Test.YtndlmgocldckfaaGreatG02
import Derived.BigRegion
import Derived.BigQuiet
import Derived.Deep.QuietTactic
import Derived.Deep.LoopGhost
import Derived.RegionTactic
namespace Go.Proofs.YtndlmgocldckfaaGreat
open Go.RowKit
set_option linter.unusedVariables false
set_option linter.unusedSimpArgs false
set_option maxRecDepth 100000
set_option maxHeartbeats 4000000
structure BkP (w : World) (wb : Nat) (k : BkD) : Prop where
 ok : BkOK w k
 nw : ¬ k.set wb
 room : Room w wb 4
 c1 : w.cell? ⟨wb, 1, none⟩ = some k.bv
 c2 : w.cell? ⟨wb, 2, none⟩ = some k.iv
 c3 : w.cell? ⟨wb, 3, none⟩ = some k.rv
structure BkStep (wb : Nat) (k k' : BkD) (S : Nat → Prop) (w w' : World) : Prop where
 p : BkP w' wb k'
 only : Only (fun b => b = wb ∨ k.set b ∨ S b) w w'
 sub : ∀ b, k'.set b → k.set b ∨ S b ∨ w.heap.size ≤ b
 c0 : ∀ v, w.cell? ⟨wb, 0, none⟩ = some v → w'.cell? ⟨wb, 0, none⟩ = some v
theorem BkP.lt {w : World} {wb : Nat} {k : BkD} (h : BkP w wb k) : wb < w.heap.size := lt_of_cell h.c1
theorem BkP.only {w w' : World} {wb : Nat} {k : BkD} {S : Nat → Prop} (h : BkP w wb k) (ho : Only S w w') (hS : ∀ b, k.set b → ¬ S b) (hw : ¬ S wb) : BkP w' wb k :=
 ⟨h.ok.only ho hS, h.nw, h.room.only ho hw, ho.at h.c1 hw, ho.at h.c2 hw, ho.at h.c3 hw⟩
theorem BkP.below {w w' : World} {wb : Nat} {k : BkD} (h : BkP w wb k) (hb : Below w.heap.size w w') : BkP w' wb k := h.only (Only.new (S := fun _ => False) hb) (by simp) (by simp)
theorem BkStep.refl {w : World} {wb : Nat} {k : BkD} {S : Nat → Prop} (h : BkP w wb k) : BkStep wb k k S w w := ⟨h, Only.refl _ _, fun b hb => .inl hb, fun v hv => hv⟩
theorem BkStep.trans {w w' w'' : World} {wb : Nat} {k k' k'' : BkD} {S : Nat → Prop} (h : BkStep wb k k' S w w') (g : BkStep wb k' k'' S w' w'') : BkStep wb k k'' S w w'' := by
 have hz := h.only.size
 refine ⟨g.p, h.only.chain g.only ?_, ?_, fun v hv => g.c0 v (h.c0 v hv)⟩
 ·rintro b hb (e | e | e)
  ·exact .inl e
  ·rcases h.sub b e with e | e | e
   ·exact .inr (.inl e)
   ·exact .inr (.inr e)
   ·omega
  ·exact .inr (.inr e)
 ·intro b hb
  rcases g.sub b hb with hb | hb | hb
  ·exact h.sub b hb
  ·exact .inr (.inl hb)
  ·exact .inr (.inr (by omega))
theorem BkStep.pre {w w' w'' : World} {wb : Nat} {k k' : BkD} {S : Nat → Prop} (ho : Only S w w') (hw : ¬ S wb) (g : BkStep wb k k' S w' w'') : BkStep wb k k' S w w'' := by
 have hz := ho.size
 refine ⟨g.p, (ho.mono (fun b _ hb => .inr (.inr hb))).trans g.only, ?_, fun v hv => g.c0 v (ho.at hv hw)⟩
 intro b hb
 rcases g.sub b hb with hb | hb | hb
 ·exact .inl hb
 ·exact .inr (.inl hb)
 ·exact .inr (.inr (by omega))
theorem BkStep.mono {w w' : World} {wb : Nat} {k k' : BkD} {S S' : Nat → Prop} (h : BkStep wb k k' S w w') (hS : ∀ b, S b → S' b) : BkStep wb k k' S' w w' := by
 refine ⟨h.p, h.only.mono ?_, ?_, h.c0⟩
 ·rintro b _ (e | e | e)
  ·exact .inl e
  ·exact .inr (.inl e)
  ·exact .inr (.inr (hS b e))
 ·intro b hb
  rcases h.sub b hb with hb | hb | hb
  ·exact .inl hb
  ·exact .inr (.inl (hS b hb))
  ·exact .inr (.inr hb)
theorem BkP.pushI {w W w2 : World} {k : BkD} {wb : Nat} {v v' : Value} {n : Nat} {S : Nat → Prop} (h : BkP w wb k) (hB : Below w.heap.size w W) (hg : W.grownBy w2 k.iv.ownBlock) (hown : w2.ownsRow 0 24 1 v' (k.il.length + 1) (k.il ++ [v])) (hwh : v'.ownBlock = k.iv.ownBlock ∨ v'.ownBlock = some W.heap.size)
  (hn : n ≤ 1000000000) (hv : Fill w v n (reps n (markI k.il.length))) (hvs : ∀ b, some b = v.ownBlock → b < w.heap.size ∧ ¬ k.rows b ∧ b ≠ wb) (hS : ∀ b, some b = v.ownBlock → S b) :
  BkStep wb k { k with iv := v', il := k.il ++ [v] } S w (w2.setCell ⟨wb, 2, none⟩ v') ∧ (∀ b, b < w.heap.size → ¬ k.rows b → ¬ ({ k with iv := v', il := k.il ++ [v] } : BkD).rows b) ∧ Only (fun b => b = wb ∨ some b = k.iv.ownBlock) w (w2.setCell ⟨wb, 2, none⟩ v') := by
 obtain ⟨h1, h2, h3, h4, h5⟩ := h.ok.pushI (wb := wb) hB hg hown hwh hn hv hvs h.nw h.lt
 have hoc : Only (fun b => some b = k.iv.ownBlock) w w2 := (Only.new hB).trans (only_of_grown hg)
 have hwv : ¬ some wb = k.iv.ownBlock := fun e => h.nw (.inr (.inr (.inl e)))
 have hcell : ∀ (j : Nat) u, j ≠ 2 → w.cell? ⟨wb, j, none⟩ = some u → (w2.setCell ⟨wb, 2, none⟩ v').cell? ⟨wb, j, none⟩ = some u := by
  intro j u hj hu
  rw [World.cell?_setCell_other _ _ _ _ (by simp; try omega)]
  exact hoc.at hu hwv
 have hroom : Room w2 wb 4 := h.room.only hoc hwv
 refine ⟨⟨⟨h1, h4, hroom.setCell _ _, hcell 1 _ (by omega) h.c1, World.cell?_setCell_same' _ _ _ (hroom 2 (by omega)).1, hcell 3 _ (by omega) h.c3⟩, h2.mono ?_, ?_, fun u hu => hcell 0 u (by omega) hu⟩, h3, h2⟩
 ·rintro b _ (e | e)
  ·exact .inl e
  ·exact .inr (.inl (.inr (.inr (.inl e))))
 ·intro b hb
  rcases h5 b hb with hb | hb | hb
  ·exact .inl hb
  ·exact .inr (.inl (hS b hb))
  ·exact .inr (.inr hb)
theorem owns_at {w : World} {Z : Nat} {e : TypeId} {k n c : Nat} {la : Option Addr} {xs : List Value} (h : w.ownsRow Z e k (.slice la n c) n xs) (hn : 0 < n) : ∃ g, la = some ⟨g, 0, none⟩ ∧ ∀ j, j < n * k → (∃ u, w.cell? ⟨g, j, none⟩ = some u) ∧ w.frozen? ⟨g, j, none⟩ = false := by
 obtain ⟨hx, ⟨hv, h0⟩ | ⟨g, cap, cur, hv, hb, hg, hnc, hcm, hcs, ht⟩⟩ := h
 ·omega
 ·simp only [Value.slice.injEq] at hv
  refine ⟨g, hv.1, fun j hj => ⟨⟨xs[j]'(by omega), ?_⟩, frozen_of_row w g j cur e hg⟩⟩
  have hO : w.ownsRow Z e k (.slice (some ⟨g, 0, none⟩) n cap) n xs := ⟨hx, .inr ⟨g, cap, cur, rfl, hb, hg, hnc, hcm, hcs, ht⟩⟩
  have := hO.cells (g := g) rfl j xs[j] (List.getElem?_eq_getElem (by omega))
  rwa [Addr.add_lit, Nat.zero_add] at this
structure MarkI (w wr : World) (Z : Nat) (e : TypeId) (l : Value) (n : Nat) (x : List Value) (j : Nat) : Prop where
 only : Only (fun b => some b = l.ownBlock) w wr
 own : ∃ ys, wr.ownsRow Z e x.length l n ys
 done : ∀ g, l.ownBlock = some g → RowAt wr g 0 (reps j x)
theorem MarkI.out {w wr : World} {Z : Nat} {e : TypeId} {la : Option Addr} {c n : Nat} {x : List Value} (h : MarkI w wr Z e (.slice la n c) n x n) : wr.ownsRow Z e x.length (.slice la n c) n (reps n x) := by
 obtain ⟨ys, hy⟩ := h.own
 rcases owns_row hy with ⟨he, h0, h1⟩ | ⟨g, cap, he, _, _, _⟩
 ·subst h0
  rw [h1] at hy
  simpa [reps] using hy
 ·rw [he] at hy ⊢
  exact owns_reads hy (h.done g (by rw [he]; rfl)) (reps_length _ _)
theorem MarkI.next1 {w wr : World} {Z : Nat} {e : TypeId} {g c n j : Nat} {v : Value} (h : MarkI w wr Z e (.slice (some ⟨g, 0, none⟩) n c) n [v] j) (hj : j < n) : MarkI w (wr.setCell ⟨g, j, none⟩ v) Z e (.slice (some ⟨g, 0, none⟩) n c) n [v] (j + 1) := by
 obtain ⟨ys, hy⟩ := h.own
 obtain ⟨g', hg', hat⟩ := owns_at hy (by omega)
 simp at hg'
 subst hg'
 refine ⟨h.only.setCell (p := ⟨g, j, none⟩) rfl _, owns_set hy j v, ?_⟩
 intro g' hg'
 simp [Value.ownBlock] at hg'
 subst hg'
 intro i u hu
 rw [reps_add] at hu
 by_cases hi : i < j
 ·rw [List.getElem?_append_left (by rw [reps_length]; simpa using hi)] at hu
  rw [Nat.zero_add, World.cell?_setCell_other _ _ _ _ (by simp; try omega)]
  have := h.done g rfl i u hu
  rwa [Nat.zero_add] at this
 ·rw [List.getElem?_append_right (by rw [reps_length]; simp only [List.length_cons, List.length_nil]; omega), reps_length] at hu
  have hi2 := (List.getElem?_eq_some_iff.1 hu).1
  simp [reps] at hi2
  have hij : i = j := by omega
  subst hij
  simp [reps] at hu
  subst hu
  rw [Nat.zero_add]
  obtain ⟨⟨u, hu⟩, _⟩ := hat i (by simpa using hj)
  exact World.cell?_setCell_same' _ _ _ (by rw [hu]; rfl)
structure Pend (wb : Nat) (MK : List Value) (k0 k : BkD) (S : Nat → Prop) (w0 w : World) (todo : List (Value × Nat)) : Prop where
 st : BkStep wb k0 k S w0 w
 todo : ∀ v n, (v, n) ∈ todo → n ≤ 1000000000 ∧ Fill w v n (reps n MK) ∧ ∀ b, some b = v.ownBlock → S b ∧ b < w.heap.size ∧ ¬ k.rows b ∧ b ≠ wb
theorem BkP.pushR {w W w2 : World} {k : BkD} {wb : Nat} {v v' : Value} {n : Nat} {S : Nat → Prop} (h : BkP w wb k) (hB : Below w.heap.size w W) (hg : W.grownBy w2 k.rv.ownBlock) (hown : w2.ownsRow 0 39 1 v' (k.rl.length + 1) (k.rl ++ [v])) (hwh : v'.ownBlock = k.rv.ownBlock ∨ v'.ownBlock = some W.heap.size)
  (hn : n ≤ 1000000000) (hv : Fill w v n (reps n (markR k.rl.length))) (hvs : ∀ b, some b = v.ownBlock → b < w.heap.size ∧ ¬ k.rows b ∧ b ≠ wb) (hS : ∀ b, some b = v.ownBlock → S b) :
  BkStep wb k { k with rv := v', rl := k.rl ++ [v] } S w (w2.setCell ⟨wb, 3, none⟩ v') ∧ (∀ b, b < w.heap.size → ¬ k.rows b → ¬ ({ k with rv := v', rl := k.rl ++ [v] } : BkD).rows b) ∧ Only (fun b => b = wb ∨ some b = k.rv.ownBlock) w (w2.setCell ⟨wb, 3, none⟩ v') := by
 obtain ⟨h1, h2, h3, h4, h5⟩ := h.ok.pushR (wb := wb) hB hg hown hwh hn hv hvs h.nw h.lt
 have hoc : Only (fun b => some b = k.rv.ownBlock) w w2 := (Only.new hB).trans (only_of_grown hg)
 have hwv : ¬ some wb = k.rv.ownBlock := fun e => h.nw (.inr (.inr (.inr e)))
 have hcell : ∀ (j : Nat) u, j ≠ 3 → w.cell? ⟨wb, j, none⟩ = some u → (w2.setCell ⟨wb, 3, none⟩ v').cell? ⟨wb, j, none⟩ = some u := by
  intro j u hj hu
  rw [World.cell?_setCell_other _ _ _ _ (by simp; try omega)]
  exact hoc.at hu hwv
 have hroom : Room w2 wb 4 := h.room.only hoc hwv
 refine ⟨⟨⟨h1, h4, hroom.setCell _ _, hcell 1 _ (by omega) h.c1, hcell 2 _ (by omega) h.c2, World.cell?_setCell_same' _ _ _ (hroom 3 (by omega)).1⟩, h2.mono ?_, ?_, fun u hu => hcell 0 u (by omega) hu⟩, h3, h2⟩
 ·rintro b _ (e | e)
  ·exact .inl e
  ·exact .inr (.inl (.inr (.inr (.inr e))))
 ·intro b hb
  rcases h5 b hb with hb | hb | hb
  ·exact .inl hb
  ·exact .inr (.inl (hS b hb))
  ·exact .inr (.inr hb)
theorem BkP.pushB {w W w2 : World} {k : BkD} {wb : Nat} {v v' : Value} {n : Nat} {S : Nat → Prop} (h : BkP w wb k) (hB : Below w.heap.size w W) (hg : W.grownBy w2 k.bv.ownBlock) (hown : w2.ownsRow 0 56 1 v' (k.bl.length + 1) (k.bl ++ [v])) (hwh : v'.ownBlock = k.bv.ownBlock ∨ v'.ownBlock = some W.heap.size)
  (hn : n ≤ 1000000000) (hv : Fill w v n (reps n (markB k.bl.length))) (hfr : Free w v) (hsp : ∀ (j : Nat) u b, k.bl[j]? = some u → some b = v.ownBlock → some b = u.ownBlock → j / 4 = k.bl.length / 4) (hvs : ∀ b, some b = v.ownBlock → b < w.heap.size ∧ ¬ k.rows b ∧ b ≠ wb) (hS : ∀ b, some b = v.ownBlock → S b) :
  BkStep wb k { k with bv := v', bl := k.bl ++ [v] } S w (w2.setCell ⟨wb, 1, none⟩ v') ∧ (∀ b, b < w.heap.size → ¬ k.rows b → ¬ ({ k with bv := v', bl := k.bl ++ [v] } : BkD).rows b) ∧ Only (fun b => b = wb ∨ some b = k.bv.ownBlock) w (w2.setCell ⟨wb, 1, none⟩ v') := by
 obtain ⟨h1, h2, h3, h4, h5⟩ := h.ok.pushB (wb := wb) hB hg hown hwh hn hv hfr hsp hvs h.nw h.lt
 have hoc : Only (fun b => some b = k.bv.ownBlock) w w2 := (Only.new hB).trans (only_of_grown hg)
 have hwv : ¬ some wb = k.bv.ownBlock := fun e => h.nw (.inr (.inl e))
 have hcell : ∀ (j : Nat) u, j ≠ 1 → w.cell? ⟨wb, j, none⟩ = some u → (w2.setCell ⟨wb, 1, none⟩ v').cell? ⟨wb, j, none⟩ = some u := by
  intro j u hj hu
  rw [World.cell?_setCell_other _ _ _ _ (by simp; try omega)]
  exact hoc.at hu hwv
 have hroom : Room w2 wb 4 := h.room.only hoc hwv
 refine ⟨⟨⟨h1, h4, hroom.setCell _ _, World.cell?_setCell_same' _ _ _ (hroom 1 (by omega)).1, hcell 2 _ (by omega) h.c2, hcell 3 _ (by omega) h.c3⟩, h2.mono ?_, ?_, fun u hu => hcell 0 u (by omega) hu⟩, h3, h2⟩
 ·rintro b _ (e | e)
  ·exact .inl e
  ·exact .inr (.inl (.inr (.inl e)))
 ·intro b hb
  rcases h5 b hb with hb | hb | hb
  ·exact .inl hb
  ·exact .inr (.inl (hS b hb))
  ·exact .inr (.inr hb)
theorem Pend.midB {w0 w W w2 : World} {k0 k : BkD} {wb : Nat} {MK : List Value} {S : Nat → Prop} {todo : List (Value × Nat)} (h : Pend wb MK k0 k S w0 w todo) (hB : Below w.heap.size w W) (hg : W.grownBy w2 k.bv.ownBlock) : w2.cell? ⟨wb, 1, none⟩ = some k.bv ∧ w2.frozen? ⟨wb, 1, none⟩ = false := by
 have hoc : Only (fun b => some b = k.bv.ownBlock) w w2 := (Only.new hB).trans (only_of_grown hg)
 have hwv : ¬ some wb = k.bv.ownBlock := fun e => h.st.p.nw (.inr (.inl e))
 exact ⟨hoc.at h.st.p.c1 hwv, ((h.st.p.room.only hoc hwv) 1 (by omega)).2⟩
theorem Pend.pushI {w0 w W w2 : World} {k0 k : BkD} {wb : Nat} {MK : List Value} {v v' : Value} {n : Nat} {S : Nat → Prop} {rest : List (Value × Nat)} (h : Pend wb MK k0 k S w0 w ((v, n) :: rest)) (hmk : markI k.il.length = MK) (hB : Below w.heap.size w W) (hg : W.grownBy w2 k.iv.ownBlock) (hown : w2.ownsRow 0 24 1 v' (k.il.length + 1) (k.il ++ [v])) (hwh : v'.ownBlock = k.iv.ownBlock ∨ v'.ownBlock = some W.heap.size) :
  Pend wb MK k0 { k with iv := v', il := k.il ++ [v] } S w0 (w2.setCell ⟨wb, 2, none⟩ v') rest := by
 obtain ⟨hn, hv, hvs⟩ := h.todo v n List.mem_cons_self
 rw [← hmk] at hv
 obtain ⟨h1, h2, h3⟩ := h.st.p.pushI (S := S) hB hg hown hwh hn hv (fun b hb => (hvs b hb).2) (fun b hb => (hvs b hb).1)
 refine ⟨h.st.trans h1, fun x m hx => ?_⟩
 obtain ⟨a1, a2, a3⟩ := h.todo x m (List.mem_cons_of_mem _ hx)
 have hz := h3.size
 refine ⟨a1, a2.only h3 ?_, fun b hb => ?_⟩
 ·rintro b hb (e | e)
  ·exact (a3 b hb).2.2.2 e
  ·exact (a3 b hb).2.2.1 (.inr <| .inl e)
 ·obtain ⟨q1, q2, q3, q4⟩ := a3 b hb
  exact ⟨q1, by omega, h2 b q2 q3, q4⟩
theorem Pend.midI {w0 w W w2 : World} {k0 k : BkD} {wb : Nat} {MK : List Value} {S : Nat → Prop} {todo : List (Value × Nat)} (h : Pend wb MK k0 k S w0 w todo) (hB : Below w.heap.size w W) (hg : W.grownBy w2 k.iv.ownBlock) : w2.cell? ⟨wb, 2, none⟩ = some k.iv ∧ w2.frozen? ⟨wb, 2, none⟩ = false := by
 have hoc : Only (fun b => some b = k.iv.ownBlock) w w2 := (Only.new hB).trans (only_of_grown hg)
 have hwv : ¬ some wb = k.iv.ownBlock := fun e => h.st.p.nw (.inr (.inr <| .inl e))
 exact ⟨hoc.at h.st.p.c2 hwv, ((h.st.p.room.only hoc hwv) 2 (by omega)).2⟩
theorem Pend.pushR {w0 w W w2 : World} {k0 k : BkD} {wb : Nat} {MK : List Value} {v v' : Value} {n : Nat} {S : Nat → Prop} {rest : List (Value × Nat)} (h : Pend wb MK k0 k S w0 w ((v, n) :: rest)) (hmk : markR k.rl.length = MK) (hB : Below w.heap.size w W) (hg : W.grownBy w2 k.rv.ownBlock) (hown : w2.ownsRow 0 39 1 v' (k.rl.length + 1) (k.rl ++ [v])) (hwh : v'.ownBlock = k.rv.ownBlock ∨ v'.ownBlock = some W.heap.size) :
  Pend wb MK k0 { k with rv := v', rl := k.rl ++ [v] } S w0 (w2.setCell ⟨wb, 3, none⟩ v') rest := by
 obtain ⟨hn, hv, hvs⟩ := h.todo v n List.mem_cons_self
 rw [← hmk] at hv
 obtain ⟨h1, h2, h3⟩ := h.st.p.pushR (S := S) hB hg hown hwh hn hv (fun b hb => (hvs b hb).2) (fun b hb => (hvs b hb).1)
 refine ⟨h.st.trans h1, fun x m hx => ?_⟩
 obtain ⟨a1, a2, a3⟩ := h.todo x m (List.mem_cons_of_mem _ hx)
 have hz := h3.size
 refine ⟨a1, a2.only h3 ?_, fun b hb => ?_⟩
 ·rintro b hb (e | e)
  ·exact (a3 b hb).2.2.2 e
  ·exact (a3 b hb).2.2.1 (.inr <| .inr e)
 ·obtain ⟨q1, q2, q3, q4⟩ := a3 b hb
  exact ⟨q1, by omega, h2 b q2 q3, q4⟩
theorem Pend.midR {w0 w W w2 : World} {k0 k : BkD} {wb : Nat} {MK : List Value} {S : Nat → Prop} {todo : List (Value × Nat)} (h : Pend wb MK k0 k S w0 w todo) (hB : Below w.heap.size w W) (hg : W.grownBy w2 k.rv.ownBlock) : w2.cell? ⟨wb, 3, none⟩ = some k.rv ∧ w2.frozen? ⟨wb, 3, none⟩ = false := by
 have hoc : Only (fun b => some b = k.rv.ownBlock) w w2 := (Only.new hB).trans (only_of_grown hg)
 have hwv : ¬ some wb = k.rv.ownBlock := fun e => h.st.p.nw (.inr (.inr <| .inr e))
 exact ⟨hoc.at h.st.p.c3 hwv, ((h.st.p.room.only hoc hwv) 3 (by omega)).2⟩
theorem three_lists {wr w1 w2 w3 A1 A2 A3 : World} {Z s1 s2 s3 : Nat} {e : TypeId} {x : List Value} {l v1 v2 v3 : Value} {j : Nat} (H0 : wr.ownsRow Z e x.length l j (reps j x))
  (hA1 : Below wr.heap.size wr A1) (h1 : w1.ownsRow Z e x.length v1 (j + 1) (reps (j + 1) x)) (g1 : A1.grownBy w1 l.ownBlock) (k1 : w1.ownsRow Z e x.length l j (reps j x) ∧ ((v1.ownBlock = l.ownBlock ∧ l.ownBlock ≠ none) ∨ (Below s1 A1 w1 ∧ v1.ownBlock = some s1))) (q1 : A1.heap.size = s1)
  (hA2 : Below w1.heap.size w1 A2) (h2 : w2.ownsRow Z e x.length v2 (j + 2) (reps (j + 2) x)) (g2 : A2.grownBy w2 l.ownBlock) (k2 : w2.ownsRow Z e x.length l j (reps j x) ∧ ((v2.ownBlock = l.ownBlock ∧ l.ownBlock ≠ none) ∨ (Below s2 A2 w2 ∧ v2.ownBlock = some s2))) (q2 : A2.heap.size = s2)
  (hA3 : Below w2.heap.size w2 A3) (h3 : w3.ownsRow Z e x.length v3 (j + 3) (reps (j + 3) x)) (g3 : A3.grownBy w3 l.ownBlock) (k3 : w3.ownsRow Z e x.length l j (reps j x) ∧ ((v3.ownBlock = l.ownBlock ∧ l.ownBlock ≠ none) ∨ (Below s3 A3 w3 ∧ v3.ownBlock = some s3))) (q3 : A3.heap.size = s3) :
  Only (fun b => some b = l.ownBlock) wr w3 ∧ ∀ v n, (v, n) ∈ [(l, j), (v1, j + 1), (v2, j + 2), (v3, j + 3)] → Fill w3 v n (reps n x) ∧ ∀ b, some b = v.ownBlock → (some b = l.ownBlock ∨ wr.heap.size ≤ b) ∧ b < w3.heap.size := by
 subst q1 q2 q3
 have a1 := hA1.size
 have a2 := hA2.size
 have a3 := hA3.size
 have b1 := g1.size
 have b2 := g2.size
 have b3 := g3.size
 have ho : Only (fun b => some b = l.ownBlock) wr w3 := ((((((Only.new hA1).trans (only_of_grown g1)).trans (Only.new hA2)).trans (only_of_grown g2)).trans (Only.new hA3)).trans (only_of_grown g3))
 have f12 : Fill w2 v1 (j + 1) (reps (j + 1) x) := Fill.beside (d := 2) rfl ((Fill.of_owns h1).only (Only.new (S := fun _ => False) hA2) (by simp)) (by omega) h2 g2 k2.2
 have f13 : Fill w3 v1 (j + 1) (reps (j + 1) x) := Fill.beside (d := 3) rfl (f12.only (Only.new (S := fun _ => False) hA3) (by simp)) (by omega) h3 g3 k3.2
 have f23 : Fill w3 v2 (j + 2) (reps (j + 2) x) := Fill.beside (d := 3) rfl ((Fill.of_owns h2).only (Only.new (S := fun _ => False) hA3) (by simp)) (by omega) h3 g3 k3.2
 refine ⟨ho, ?_⟩
 intro v n hv
 simp only [List.mem_cons, List.not_mem_nil, or_false, Prod.mk.injEq] at hv
 rcases hv with ⟨rfl, rfl⟩ | ⟨rfl, rfl⟩ | ⟨rfl, rfl⟩ | ⟨rfl, rfl⟩
 ·exact ⟨Fill.of_owns k3.1, fun b hb => ⟨.inl hb, (k3.1.lt b hb.symm).2⟩⟩
 ·refine ⟨f13, fun b hb => ⟨?_, by have := (h1.lt b hb.symm).2; omega⟩⟩
  rcases k1.2 with ⟨e, _⟩ | ⟨_, e⟩
  ·exact .inl (by rw [← e]; exact hb)
  ·rw [e] at hb; have := Option.some.inj hb; exact .inr (by omega)
 ·refine ⟨f23, fun b hb => ⟨?_, by have := (h2.lt b hb.symm).2; omega⟩⟩
  rcases k2.2 with ⟨e, _⟩ | ⟨_, e⟩
  ·exact .inl (by rw [← e]; exact hb)
  ·rw [e] at hb; have := Option.some.inj hb; exact .inr (by omega)
 ·refine ⟨Fill.of_owns h3, fun b hb => ⟨?_, (h3.lt b hb.symm).2⟩⟩
  rcases k3.2 with ⟨e, _⟩ | ⟨_, e⟩
  ·exact .inl (by rw [← e]; exact hb)
  ·rw [e] at hb; have := Option.some.inj hb; exact .inr (by omega)
theorem pend_start {w wr w3 : World} {wb : Nat} {k : BkD} {x : List Value} {l v1 v2 v3 : Value} {j : Nat} (h : BkP w wb k) (hj : j ≤ 1000000) (hls : ∀ b, some b = l.ownBlock → ¬ k.set b ∧ b ≠ wb) (ho : Only (fun b => some b = l.ownBlock) w wr)
  (h3 : Only (fun b => some b = l.ownBlock) wr w3 ∧ ∀ v n, (v, n) ∈ [(l, j), (v1, j + 1), (v2, j + 2), (v3, j + 3)] → Fill w3 v n (reps n x) ∧ ∀ b, some b = v.ownBlock → (some b = l.ownBlock ∨ wr.heap.size ≤ b) ∧ b < w3.heap.size) :
  Pend wb x k k (fun b => some b = l.ownBlock ∨ w.heap.size ≤ b) w w3 [(l, j), (v1, j + 1), (v2, j + 2), (v3, j + 3)] := by
 have hz := ho.size
 have hz3 := h3.1.size
 have hw3 : Only (fun b => some b = l.ownBlock) w w3 := ho.trans h3.1
 have hwl := h.lt
 have hp : BkP w3 wb k := h.only hw3 (fun b hb e => (hls b e).1 hb) (fun e => (hls wb e).2 rfl)
 refine ⟨⟨hp, hw3.mono (fun b _ hb => .inr (.inr (.inl hb))), fun b hb => .inl hb, fun v hv => hw3.at hv (fun e => (hls wb e).2 rfl)⟩, ?_⟩
 intro v n hv
 obtain ⟨f, hb⟩ := h3.2 v n hv
 refine ⟨?_, f, fun b hbb => ?_⟩
 ·simp only [List.mem_cons, List.not_mem_nil, or_false, Prod.mk.injEq] at hv
  omega
 ·obtain ⟨q1, q2⟩ := hb b hbb
  refine ⟨?_, q2, ?_, ?_⟩
  ·rcases q1 with q1 | q1
   ·exact .inl q1
   ·exact .inr (by omega)
  ·intro hc
   rcases q1 with q1 | q1
   ·exact (hls b q1).1 (.inr hc)
   ·have := h.ok.lt b (.inr hc); omega
  ·rcases q1 with q1 | q1
   ·exact (hls b q1).2
   ·omega
theorem BkStep.done {w w' : World} {wb : Nat} {k k' : BkD} {S : Nat → Prop} (h : BkStep wb k k' (fun b => S b ∨ w.heap.size ≤ b) w w') : BkStep wb k k' S w w' := by
 refine ⟨h.p, h.only.mono ?_, ?_, h.c0⟩
 ·rintro b hb (e | e | e | e)
  ·exact .inl e
  ·exact .inr (.inl e)
  ·exact .inr (.inr e)
  ·omega
 ·intro b hb
  rcases h.sub b hb with e | (e | e) | e
  ·exact .inl e
  ·exact .inr (.inl e)
  ·exact .inr (.inr e)
  ·exact .inr (.inr e)
theorem Tryz.infoBs : (Tryz.prog.info? 56).map (fun i => (i.zero, i.size, i.bytes)) = some (some (.slice none 0 0), 1, 24) := by kernel_rfl
theorem Tryz.infoIs : (Tryz.prog.info? 24).map (fun i => (i.zero, i.size, i.bytes)) = some (some (.slice none 0 0), 1, 24) := by kernel_rfl
theorem Tryz.infoRs : (Tryz.prog.info? 39).map (fun i => (i.zero, i.size, i.bytes)) = some (some (.slice none 0 0), 1, 24) := by kernel_rfl
theorem mAhead_any (a b : Mom) (w : World) :
  Calls Tryz.prog 140 #[.agg #[.int .i64 a.time, .int .i64 a.number], .agg #[.int .i64 b.time, .int .i64 b.number]] w fun e w' => e = .returned (.bool (aheadM a b)) ∧ Below w.heap.size w w' := by
 by_cases h1 : a.time < b.time
 ·have h1' : decide (a.time < b.time) = true := by simpa using h1
  go_enter Tryz.func140, Tryz.ntmps140
  go_wp2
  go_ret
  exact ⟨by simp [aheadM, h1], ((Below.refl _ _).alloc (Nat.le_refl _) _).alloc (by simp) _⟩
 ·have h1' : decide (a.time < b.time) = false := by simpa using h1
  by_cases h2 : a.time = b.time
  ·have h2' : (a.time == b.time) = true := by simpa using h2
   have H2 := hide h2
   clear h2 h1
   go_enter Tryz.func140, Tryz.ntmps140
   go_wp2
   go_ret
   exact ⟨by simp [aheadM, H2.out], ((Below.refl _ _).alloc (Nat.le_refl _) _).alloc (by simp) _⟩
  ·have h2' : (a.time == b.time) = false := by simpa using h2
   go_enter Tryz.func140, Tryz.ntmps140
   go_wp2
   go_ret
   exact ⟨by simp [aheadM, h1, h2], ((Below.refl _ _).alloc (Nat.le_refl _) _).alloc (by simp) _⟩
def MomIn (cur : Array Value) (f : Nat → Mom) (n : Nat) : Prop := ∀ i, i < n → cur[i * 2]? = some (.int .i64 (f i).time) ∧ cur[i * 2 + 1]? = some (.int .i64 (f i).number)
def RowB (w : World) (b T S : Nat) (f : Nat → Mom) (n : Nat) : Prop := ∃ cur : Array Value, w.heap[b]? = some (.cells cur T (0, 0)) ∧ cur.size = S ∧ MomIn cur f n
theorem RowB.lt {w : World} {b T S n : Nat} {f : Nat → Mom} (h : RowB w b T S f n) : b < w.heap.size := by
 obtain ⟨cur, h1, _⟩ := h
 exact (Array.getElem?_eq_some_iff.1 h1).1
theorem RowB.cell {w : World} {b T S n : Nat} {f : Nat → Mom} (h : RowB w b T S f n) {i : Nat} (hi : i < n) :
  w.cell? ⟨b, i * 2, none⟩ = some (.int .i64 (f i).time) ∧ w.cell? ⟨b, i * 2 + 1, none⟩ = some (.int .i64 (f i).number) ∧ w.frozen? ⟨b, i * 2, none⟩ = false ∧ w.frozen? ⟨b, i * 2 + 1, none⟩ = false := by
 obtain ⟨cur, h1, h2, h3⟩ := h
 obtain ⟨h4, h5⟩ := h3 i hi
 simp [World.cell?, World.frozen?, h1, h4, h5]
theorem RowB.below {w w' : World} {b T S n : Nat} {f : Nat → Mom} (h : RowB w b T S f n) (hb : Below w.heap.size w w') : RowB w' b T S f n := by
 have := h.lt
 obtain ⟨cur, h1, h2⟩ := h
 exact ⟨cur, (hb.block b this).trans h1, h2⟩
theorem RowB.only {w w' : World} {b T S n : Nat} {f : Nat → Mom} {U : Nat → Prop} (h : RowB w b T S f n) (ho : Only U w w') (hb : ¬ U b) : RowB w' b T S f n := by
 have := h.lt
 obtain ⟨cur, h1, h2⟩ := h
 exact ⟨cur, (ho.block b this hb).trans h1, h2⟩
theorem RowB.drew {w : World} {b T S n : Nat} {f : Nat → Mom} (h : RowB w b T S f n) : RowB w.drew b T S f n := h
def setM (w : World) (b i : Nat) (m : Mom) : World := (w.setCell ⟨b, i * 2, none⟩ (.int .i64 m.time)).setCell ⟨b, i * 2 + 1, none⟩ (.int .i64 m.number)
theorem Only.setM {U : Nat → Prop} {a w : World} {b : Nat} (h : Only U a w) (hb : U b) (i : Nat) (m : Mom) : Only U a (setM w b i m) := (h.setCell hb _).setCell hb _
theorem Only.drew {U : Nat → Prop} {a w : World} (h : Only U a w) : Only U a w.drew := h.trans ⟨rfl, rfl, rfl, Nat.le_refl _, fun _ _ _ => rfl⟩
theorem heap_setCell_at {w : World} {b o T : Nat} {cur : Array Value} (h : w.heap[b]? = some (.cells cur T (0, 0))) (v : Value) : (w.setCell ⟨b, o, none⟩ v).heap[b]? = some (.cells (cur.setIfInBounds o v) T (0, 0)) := by
 simp [World.setCell, Array.getElem?_modify, h]
theorem RowB.set {w : World} {b T S n : Nat} {f : Nat → Mom} (h : RowB w b T S f n) {i : Nat} (hi : i < n) (m : Mom) : RowB (setM w b i m) b T S (putF f i m) n := by
 obtain ⟨cur, h1, h2, h3⟩ := h
 refine ⟨(cur.setIfInBounds (i * 2) (.int .i64 m.time)).setIfInBounds (i * 2 + 1) (.int .i64 m.number), heap_setCell_at (heap_setCell_at h1 _) _, by simp [h2], ?_⟩
 have hs : i * 2 + 1 < cur.size := by
  have := (h3 i hi).2
  exact (Array.getElem?_eq_some_iff.1 this).1
 intro j hj
 obtain ⟨a, c⟩ := h3 j hj
 by_cases hji : j = i
 ·subst hji
  refine ⟨?_, ?_⟩
  ·rw [Array.getElem?_setIfInBounds_ne (by omega), Array.getElem?_setIfInBounds_self_of_lt (by omega)]; simp [putF]
  ·rw [Array.getElem?_setIfInBounds_self_of_lt (by simp; omega)]; simp [putF]
 ·refine ⟨?_, ?_⟩
  ·rw [Array.getElem?_setIfInBounds_ne (by omega), Array.getElem?_setIfInBounds_ne (by omega)]; simp [putF, hji, a]
  ·rw [Array.getElem?_setIfInBounds_ne (by omega), Array.getElem?_setIfInBounds_ne (by omega)]; simp [putF, hji, c]
theorem RowB.swap {w : World} {b T S n : Nat} {f : Nat → Mom} (h : RowB w b T S f n) {i j : Nat} (hi : i < n) (hj : j < n) (hij : i ≠ j) : RowB (setM (setM w b i (f j)) b j (f i)) b T S (swapF f i j) n := by
 have e : swapF f i j = putF (putF f i (f j)) j (f i) := by
  funext k
  unfold swapF putF
  by_cases h1 : k = i
  ·subst h1; simp [hij]
  ·by_cases h2 : k = j
   ·subst h2; simp [Ne.symm hij]
   ·simp [h1, h2]
 rw [e]
 exact (h.set hi _).set hj _
theorem rise_any (b T S n cap i0 : Nat) (f : Nat → Mom) (w : World) (q : List Ev) (hr : RowB w b T S f n) (hi : i0 < n) (hn : n ≤ 17) (hR : RiseF f n i0) (hm : MomsOf f n q) :
  Calls Tryz.prog 132 #[.slice (some ⟨b, 0, none⟩) n cap, .int .i64 i0] w fun e w' => e = .returned (.tuple #[]) ∧ Only (· = b) w w' ∧ ∃ f', RowB w' b T S f' n ∧ HeapF f' n ∧ MomsOf f' n q := by
 go_enter Tryz.func132, Tryz.ntmps132
 go_wp2
 go_loopg [1] (i0 + 1) (fun g si wr => ∃ (i : Nat) (fk : Nat → Mom), si = .int .i64 i ∧ i < n ∧ i + 1 ≤ g ∧ Only (· = b) w wr ∧ RowB wr b T S fk n ∧ RiseF fk n i ∧ MomsOf fk n q)
 case atStart => exact ⟨i0, f, rfl, hi, Nat.le_refl _, Only.refl _ _, hr, hR, hm⟩
 case round =>
  obtain ⟨i, fk, rfl, hin, hg, ho, hrk, hRk, hmk⟩ := hrel
  have HRk := hide hRk
  have Hmk := hide hmk
  clear hr hR hm hRk hmk
  by_cases h0 : i = 0
  ·subst h0
   go_wp2
   go_end0
   exact ⟨rfl, ho, fk, hrk, HRk.out.done (.inl rfl), Hmk.out⟩
  ·obtain ⟨p, hp⟩ : ∃ p, p = (i - 1) / 2 := ⟨_, rfl⟩
   have hpi : p < i := by omega
   have hi0 : (0 : Int) < (i : Int) := by omega
   have hpe : ((i : Int) - 1).tdiv 2 = (p : Int) := by rw [Int.tdiv_eq_ediv_of_nonneg (by omega), hp]; omega
   obtain ⟨c0, c1, z0, z1⟩ := hrk.cell hin
   obtain ⟨d0, d1, y0, y1⟩ := hrk.cell (i := p) (by omega)
   obtain ⟨mi, hmi⟩ : ∃ m, fk i = m := ⟨_, rfl⟩
   obtain ⟨mp, hmp⟩ : ∃ m, fk p = m := ⟨_, rfl⟩
   rw [hmi] at c0 c1
   rw [hmp] at d0 d1
   have Hrk := hide hrk
   have Hp := hide hp
   clear hrk hp
   rcases hah : aheadM mi mp with _ | _
   ·go_wp2
    go_region_with (go_at_call 140; refine (mAhead_any mi mp _).mono ?_; rintro e' w3 ⟨rfl, hb3⟩; rw [hah])
    all_goals
     go_wp2
     refine bodyPost_ret (results_none rfl _ _ _) rfl ?_
     have hb4 : Below wr.heap.size wr w3 := (Below.refl _ _).drew.trans hb3
     exact ⟨rfl, ho.trans (Only.new hb4), fk, Hrk.out.below hb4, HRk.out.done (.inr (.inr (by rw [← Hp.out, hmi, hmp, hah]))), Hmk.out⟩
   ·go_wp2
    go_region_with (go_at_call 140; refine (mAhead_any mi mp _).mono ?_; rintro e' w3 ⟨rfl, hb3⟩; rw [hah])
    all_goals
     have hb4 : Below wr.heap.size wr w3 := (Below.refl _ _).drew.trans hb3
     clear hb3
     have Hr3 := hide (Hrk.out.below hb4)
     have Ho3 := hide (ho.trans (Only.new hb4))
     obtain ⟨c0, c1, z0, z1⟩ := Hr3.out.cell hin
     obtain ⟨d0, d1, y0, y1⟩ := Hr3.out.cell (i := p) (by omega)
     rw [hmi] at c0 c1
     rw [hmp] at d0 d1
     clear hb4 Hrk ho
     go_wp2
     go_region
     all_goals
      go_wp2
      go_roundg (p + 1)
      case measure => omega
      case rel =>
       have hA : aheadM (fk i) (fk ((i - 1) / 2)) = true := by rw [← Hp.out, hmi, hmp, hah]
       have hsw := Hr3.out.swap hin (j := p) (by omega) (by omega)
       rw [hmi, hmp] at hsw
       exact ⟨p, swapF fk i p, by go_num, by omega, Nat.le_refl _, ((Ho3.out.setM rfl _ _).setM rfl _ _).drew, hsw.drew, by have := HRk.out.swap (by omega) hin hA; rwa [← Hp.out] at this, Hmk.out.swap hin (by omega)⟩
end Go.Proofs.YtndlmgocldckfaaGreat
