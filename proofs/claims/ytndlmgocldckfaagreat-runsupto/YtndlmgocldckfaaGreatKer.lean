import Derived.Test.YtndlmgocldckfaaGreatQDrop
import Derived.Test.YtndlmgocldckfaaGreatQcZ
import Derived.Test.YtndlmgocldckfaaGreatChZ
namespace Go.Proofs.YtndlmgocldckfaaGreat
open Go.RowKit
set_option linter.unusedVariables false
set_option linter.unusedSimpArgs false

/-! The program's kernel as it lies, and what it does, in plain functions. -/

structure KS where
  taken : Nat
  clock : Int
  next : Int
  regs : Nat → Int
  q : List Ev

/-- The blocks that a kernel writes into. -/
def KSet (kb qb mb : Nat) (ov : Value) (b : Nat) : Prop := b = kb ∨ QSet qb mb ov b

structure KerP (R : Nat → Prop) (base : Nat) (w : World) (kb qb mb : Nat) (ov : Value) (ents : Int) (ks : List (List Ins)) (draws : List Int) (s : KS) : Prop where
  c0 : w.cell? ⟨kb, 0, none⟩ = some (.int .i64 ents)
  kinds : ∃ kv, w.cell? ⟨kb, 1, none⟩ = some kv ∧ KindsIn R w kv ks
  draw : ∃ dv, w.cell? ⟨kb, 2, none⟩ = some dv ∧ IntsIn R w dv draws
  c3 : w.cell? ⟨kb, 3, none⟩ = some (.pointer (some ⟨qb, 0, none⟩))
  c4 : w.cell? ⟨kb, 4, none⟩ = some (.int .i64 s.clock)
  c5 : w.cell? ⟨kb, 5, none⟩ = some (.int .i64 s.next)
  c6 : w.cell? ⟨kb, 6, none⟩ = some (.int .i64 s.taken)
  regs : ∀ j, j < 32 → w.cell? ⟨kb, 7 + j, none⟩ = some (.int .i64 (s.regs j))
  room : Room w kb 39
  que : QueP base w qb mb ov s.q
  kq : ¬ QSet qb mb ov kb
  far : ∀ b, R b → b ≠ kb ∧ ¬ QSet qb mb ov b
  rlt : ∀ b, R b → b < w.heap.size

section
variable {R : Nat → Prop} {base : Nat} {w w' : World} {kb qb mb : Nat} {ov : Value} {ents : Int} {ks : List (List Ins)} {draws : List Int} {s : KS}
theorem KerP.klt (h : KerP R base w kb qb mb ov ents ks draws s) : kb < w.heap.size := lt_of_cell h.c0
theorem KerP.lt (h : KerP R base w kb qb mb ov ents ks draws s) : ∀ b, KSet kb qb mb ov b → b < w.heap.size := by
  rintro b (rfl | hb)
  · exact h.klt
  · exact h.que.lt b hb
theorem KerP.only {U : Nat → Prop} (h : KerP R base w kb qb mb ov ents ks draws s) (ho : Only U w w') (hU : ∀ b, KSet kb qb mb ov b → ¬ U b) (hR : ∀ b, R b → ¬ U b) : KerP R base w' kb qb mb ov ents ks draws s := by
  have hk := hU kb (.inl rfl)
  obtain ⟨kv, hk1, hk2⟩ := h.kinds
  obtain ⟨dv, hd1, hd2⟩ := h.draw
  exact ⟨ho.at h.c0 hk, ⟨kv, ho.at hk1 hk, hk2.only ho hR⟩, ⟨dv, ho.at hd1 hk, hd2.only ho hR⟩, ho.at h.c3 hk, ho.at h.c4 hk, ho.at h.c5 hk, ho.at h.c6 hk, fun j hj => ho.at (h.regs j hj) hk, h.room.only ho hk, h.que.only ho (fun b hb => hU b (.inr hb)), h.kq, h.far, fun b hb => Nat.lt_of_lt_of_le (h.rlt b hb) ho.size⟩
theorem KerP.below (h : KerP R base w kb qb mb ov ents ks draws s) (hb : Below w.heap.size w w') : KerP R base w' kb qb mb ov ents ks draws s := h.only (Only.new (S := fun _ => False) hb) (by simp) (by simp)
/-- The queue has turned, and nothing else. -/
theorem KerP.queue {ov' : Value} {q' : List Ev} (h : KerP R base w kb qb mb ov ents ks draws s) (ho : Only (QSet qb mb ov) w w') (hq : QueP base w' qb mb ov' q') (hm : Moved w ov ov') : KerP R base w' kb qb mb ov' ents ks draws { s with q := q' } := by
  have hk := h.kq
  have hR := fun b hb => (h.far b hb).2
  obtain ⟨kv, hk1, hk2⟩ := h.kinds
  obtain ⟨dv, hd1, hd2⟩ := h.draw
  have hset : ∀ b, b < w.heap.size → ¬ QSet qb mb ov b → ¬ QSet qb mb ov' b := by
    rintro b hb hn (rfl | rfl | hc)
    · exact hn (.inl rfl)
    · exact hn (.inr (.inl rfl))
    · rcases hm with e | ⟨g, e, hg⟩
      · exact hn (.inr (.inr (hc.trans e)))
      · rw [e] at hc; simp at hc; omega
  exact ⟨ho.at h.c0 hk, ⟨kv, ho.at hk1 hk, hk2.only ho hR⟩, ⟨dv, ho.at hd1 hk, hd2.only ho hR⟩, ho.at h.c3 hk, ho.at h.c4 hk, ho.at h.c5 hk, ho.at h.c6 hk, fun j hj => ho.at (h.regs j hj) hk, h.room.only ho hk, hq, hset kb h.klt hk, fun b hb => ⟨(h.far b hb).1, hset b (h.rlt b hb) (h.far b hb).2⟩, fun b hb => Nat.lt_of_lt_of_le (h.rlt b hb) ho.size⟩
/-- A cell of the kernel's own has been written. -/
theorem KerP.wrote (h : KerP R base w kb qb mb ov ents ks draws s) {o : Nat} {v : Value} {s' : KS} (ho : 4 ≤ o) (ho' : o < 39) (hq : s'.q = s.q)
    (h4 : (w.setCell ⟨kb, o, none⟩ v).cell? ⟨kb, 4, none⟩ = some (.int .i64 s'.clock)) (h5 : (w.setCell ⟨kb, o, none⟩ v).cell? ⟨kb, 5, none⟩ = some (.int .i64 s'.next)) (h6 : (w.setCell ⟨kb, o, none⟩ v).cell? ⟨kb, 6, none⟩ = some (.int .i64 s'.taken))
    (hr : ∀ j, j < 32 → (w.setCell ⟨kb, o, none⟩ v).cell? ⟨kb, 7 + j, none⟩ = some (.int .i64 (s'.regs j))) : KerP R base (w.setCell ⟨kb, o, none⟩ v) kb qb mb ov ents ks draws s' := by
  have hon : Only (· = kb) w (w.setCell ⟨kb, o, none⟩ v) := Only.setCell (S := (· = kb)) (Only.refl _ _) (p := ⟨kb, o, none⟩) rfl _
  have hR := fun b hb => (h.far b hb).1
  obtain ⟨kv, hk1, hk2⟩ := h.kinds
  obtain ⟨dv, hd1, hd2⟩ := h.draw
  have oth : ∀ i, i < 4 → (w.setCell ⟨kb, o, none⟩ v).cell? ⟨kb, i, none⟩ = w.cell? ⟨kb, i, none⟩ := fun i hi => World.cell?_setCell_other _ _ _ _ (by simp <;> omega)
  refine ⟨(oth 0 (by omega)).trans h.c0, ⟨kv, (oth 1 (by omega)).trans hk1, hk2.only hon hR⟩, ⟨dv, (oth 2 (by omega)).trans hd1, hd2.only hon hR⟩, (oth 3 (by omega)).trans h.c3, h4, h5, h6, hr, h.room.setCell _ _, ?_, h.kq, h.far, fun b hb => Nat.lt_of_lt_of_le (h.rlt b hb) hon.size⟩
  rw [hq]
  exact h.que.only hon (fun b hb hc => by subst hc; exact h.kq hb)
theorem KerP.setClock (h : KerP R base w kb qb mb ov ents ks draws s) (t : Int) : KerP R base (w.setCell ⟨kb, 4, none⟩ (.int .i64 t)) kb qb mb ov ents ks draws { s with clock := t } :=
  h.wrote (by omega) (by omega) rfl (World.cell?_setCell_same _ _ _ h.c4) ((World.cell?_setCell_other _ _ _ _ (by simp)).trans h.c5) ((World.cell?_setCell_other _ _ _ _ (by simp)).trans h.c6) (fun j hj => (World.cell?_setCell_other _ _ _ _ (by simp <;> omega)).trans (h.regs j hj))
theorem KerP.setNext (h : KerP R base w kb qb mb ov ents ks draws s) (t : Int) : KerP R base (w.setCell ⟨kb, 5, none⟩ (.int .i64 t)) kb qb mb ov ents ks draws { s with next := t } :=
  h.wrote (by omega) (by omega) rfl ((World.cell?_setCell_other _ _ _ _ (by simp)).trans h.c4) (World.cell?_setCell_same _ _ _ h.c5) ((World.cell?_setCell_other _ _ _ _ (by simp)).trans h.c6) (fun j hj => (World.cell?_setCell_other _ _ _ _ (by simp <;> omega)).trans (h.regs j hj))
theorem KerP.setTaken (h : KerP R base w kb qb mb ov ents ks draws s) (t : Nat) : KerP R base (w.setCell ⟨kb, 6, none⟩ (.int .i64 t)) kb qb mb ov ents ks draws { s with taken := t } :=
  h.wrote (by omega) (by omega) rfl ((World.cell?_setCell_other _ _ _ _ (by simp)).trans h.c4) ((World.cell?_setCell_other _ _ _ _ (by simp)).trans h.c5) (World.cell?_setCell_same _ _ _ h.c6) (fun j hj => (World.cell?_setCell_other _ _ _ _ (by simp <;> omega)).trans (h.regs j hj))
def putR (f : Nat → Int) (i : Nat) (v : Int) : Nat → Int := fun k => if k = i then v else f k
theorem KerP.setReg (h : KerP R base w kb qb mb ov ents ks draws s) {i : Nat} (hi : i < 32) (v : Int) : KerP R base (w.setCell ⟨kb, 7 + i, none⟩ (.int .i64 v)) kb qb mb ov ents ks draws { s with regs := putR s.regs i v } := by
  refine h.wrote (by omega) (by omega) rfl ((World.cell?_setCell_other _ _ _ _ (by simp <;> omega)).trans h.c4) ((World.cell?_setCell_other _ _ _ _ (by simp <;> omega)).trans h.c5) ((World.cell?_setCell_other _ _ _ _ (by simp <;> omega)).trans h.c6) (fun j hj => ?_)
  by_cases hji : j = i
  · subst hji
    rw [World.cell?_setCell_same _ _ _ (h.regs j hj)]
    simp [putR]
  · rw [World.cell?_setCell_other _ _ _ _ (by simp <;> omega), h.regs j hj]
    simp [putR, hji]
end

def cutF (n : Int) : Int := min (max n (-1000000000)) 1000000000
theorem cutF_le (n : Int) : -1000000000 ≤ cutF n ∧ cutF n ≤ 1000000000 := by unfold cutF; omega

/-- An instruction that is no Skip: the state behind it, what is told, and why it cannot be done. -/
def doI (draws : List Int) (E : Nat) (x : Ins) (s : KS) : KS × List Int × Int :=
  let a := E * 4 + x.a.toNat
  if x.op = 1 then ({ s with regs := putR s.regs a x.b }, [], 0)
  else if x.op = 2 then ({ s with regs := putR s.regs a (cutF (s.regs a + s.regs (E * 4 + x.b.toNat))) }, [], 0)
  else if x.op = 3 then ({ s with regs := putR s.regs a (cutF (s.regs a - s.regs (E * 4 + x.b.toNat))) }, [], 0)
  else if x.op = 4 then
    match draws[s.taken]? with
    | none => ({ s with regs := putR s.regs a 0 }, [], 5)
    | some d => ({ s with taken := s.taken + 1, regs := putR s.regs a (d % x.b) }, [], 0)
  else if x.op = 6 then
    if ¬ (s.q.length < 16 ∧ s.next < 1000000000) then ({ s with regs := putR s.regs (E * 4 + 3) 0 }, [], 3)
    else if 1000000000000 < s.clock + max (s.regs (E * 4 + x.c.toNat)) 0 then ({ s with regs := putR s.regs (E * 4 + 3) 0 }, [], 4)
    else ({ s with q := insF ⟨s.clock + max (s.regs (E * 4 + x.c.toNat)) 0, s.next, x.a, x.b⟩ s.q, next := s.next + 1, regs := putR s.regs (E * 4 + 3) s.next }, [], 0)
  else if x.op = 7 then ({ s with q := outF (s.regs a) s.q }, [], 0)
  else (s, [s.regs a], 0)

/-- Instructions, one behind the other; the first k are passed by. -/
def execS (draws : List Int) (E : Nat) : List Ins → Nat → KS → List Int → KS × List Int × Int
  | [], _, s, told => (s, told, 0)
  | _ :: l, k + 1, s, told => execS draws E l k s told
  | x :: l, 0, s, told =>
    if x.op = 5 then
      if s.regs (E * 4 + x.a.toNat) ≤ 0 then execS draws E l x.b.toNat s told else execS draws E l 0 s told
    else
      match doI draws E x s with
      | (s', t, why) => if why = 0 then execS draws E l 0 s' (told ++ t) else (s', [], why)
def execF (draws : List Int) (E : Nat) (l : List Ins) (s : KS) (told : List Int) : KS × List Int × Int := execS draws E l 0 s told
theorem execS_drop (draws : List Int) (E : Nat) : ∀ (l : List Ins) (k : Nat) (s : KS) (told : List Int), execS draws E l k s told = execF draws E (l.drop k) s told
  | [], k, s, told => by simp [execF, execS]
  | x :: l, 0, s, told => rfl
  | x :: l, k + 1, s, told => by rw [execS]; simpa using execS_drop draws E l k s told

/-- What an event does. -/
def happenF (ks : List (List Ins)) (draws : List Int) (e : Ev) (s : KS) : KS × List Int × Int :=
  execF draws e.entity.toNat (ks.getD e.kind.toNat []) { s with q := outF e.number s.q, clock := e.time } []

/-- A state as it may be. -/
structure KOk (ents : Int) (nk : Nat) (draws : List Int) (s : KS) : Prop where
  taken : s.taken ≤ draws.length
  clock : 0 ≤ s.clock ∧ s.clock ≤ 1000000000000
  next : 1 ≤ s.next ∧ s.next ≤ 1000000000
  regs : ∀ j, -1000000000 ≤ s.regs j ∧ s.regs j ≤ 1000000000
  evs : ∀ e ∈ s.q, s.clock ≤ e.time ∧ e.time ≤ 1000000000000 ∧ 1 ≤ e.number ∧ e.number < s.next ∧ 0 ≤ e.kind ∧ e.kind < nk ∧ 0 ≤ e.entity ∧ e.entity < ents
  len : s.q.length ≤ 16

theorem KOk.reg {ents : Int} {nk : Nat} {draws : List Int} {s : KS} (h : KOk ents nk draws s) {i : Nat} {v : Int} (hv : -1000000000 ≤ v ∧ v ≤ 1000000000) : KOk ents nk draws { s with regs := putR s.regs i v } := by
  refine ⟨h.taken, h.clock, h.next, ?_, h.evs, h.len⟩
  intro j
  simp only [putR]
  split
  · exact hv
  · exact h.regs j

/-- An instruction that may be, and draws that may be, keep the state as it may be. -/
theorem doI_ok {ents : Int} {nk : Nat} {draws : List Int} {s : KS} {x : Ins} {E : Nat} (h : KOk ents nk draws s) (hx : mayF ents nk x.op x.a x.b x.c = true) (h5 : x.op ≠ 5) (hd : ∀ d ∈ draws, 0 ≤ d ∧ d ≤ 1000000000) : KOk ents nk draws (doI draws E x s).1 := by
  unfold doI
  simp only
  by_cases o1 : x.op = 1
  · rw [if_pos o1]
    refine h.reg ?_
    simp [mayF, o1, inB] at hx; omega
  rw [if_neg o1]
  by_cases o2 : x.op = 2
  · rw [if_pos o2]; exact h.reg (cutF_le _)
  rw [if_neg o2]
  by_cases o3 : x.op = 3
  · rw [if_pos o3]; exact h.reg (cutF_le _)
  rw [if_neg o3]
  by_cases o4 : x.op = 4
  · rw [if_pos o4]
    split
    · exact h.reg (by omega)
    · rename_i d hdd
      have hb : 1 ≤ x.b ∧ x.b ≤ 1000000000 := by simp [mayF, o4, inB] at hx; omega
      have hdr := hd d (List.mem_of_getElem? hdd)
      have hm := Int.emod_lt_of_pos d (show 0 < x.b by omega)
      have hm0 := Int.emod_nonneg d (show x.b ≠ 0 by omega)
      have h' := h.reg (i := E * 4 + x.a.toNat) (v := d % x.b) (by omega)
      refine ⟨?_, h'.clock, h'.next, h'.regs, h'.evs, h'.len⟩
      have := (List.getElem?_eq_some_iff.1 hdd).1
      simp; omega
  rw [if_neg o4]
  by_cases o6 : x.op = 6
  · rw [if_pos o6]
    split
    · exact h.reg (by omega)
    · rename_i hroom
      have hroom' : s.q.length < 16 ∧ s.next < 1000000000 := Classical.not_not.1 hroom
      split
      · exact h.reg (by omega)
      · rename_i hlate
        have hn := h.next
        have hc := h.clock
        have h' := h.reg (i := E * 4 + 3) (v := s.next) (by omega)
        have hxx : 0 ≤ x.a ∧ x.a ≤ nk - 1 ∧ 0 ≤ x.b ∧ x.b ≤ ents - 1 := by simp [mayF, o6, inB] at hx; omega
        refine ⟨h'.taken, h'.clock, by simp; omega, h'.regs, ?_, by simp [insF_length]; omega⟩
        intro e he
        rcases (insF_mem _ _ _).1 he with rfl | he
        · simp; omega
        · have := h.evs e he
          simp; omega
  rw [if_neg o6]
  by_cases o7 : x.op = 7
  · rw [if_pos o7]
    refine ⟨h.taken, h.clock, h.next, h.regs, ?_, ?_⟩
    · intro e he; exact h.evs e ((outF_mem _ _ _).1 he).1
    · have := h.len
      have := List.length_filter_le (fun e : Ev => decide (e.number ≠ s.regs (E * 4 + x.a.toNat))) s.q
      simp only [outF]; omega
  · rw [if_neg o7]; exact h
end Go.Proofs.YtndlmgocldckfaaGreat
