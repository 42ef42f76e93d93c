import Derived.Test.YtndlmgocldckfaaGreatG07
import Derived.Test.YtndlmgocldckfaaGreatG08
import Derived.Test.YtndlmgocldckfaaGreatG02
namespace Go.Proofs.YtndlmgocldckfaaGreat
open Go.RowKit
set_option linter.unusedVariables false
set_option linter.unusedSimpArgs false
set_option maxRecDepth 100000
set_option maxHeartbeats 4000000
structure KS where
 taken : Nat
 clock : Int
 next : Int
 regs : Nat → Int
 q : List Ev
def KSet (kb qb mb : Nat) (ov : Value) (b : Nat) : Prop := b = kb ∨ QSet qb mb ov b
structure KerP (R : Nat → Prop) (base : Nat) (w : World) (kb qb mb : Nat) (ov : Value) (ents : Int) (ks : List (List Ins)) (draws : List Int) (s : KS) : Prop where
 c0 : w.cell? ⟨kb, 0, none⟩ = some (.int .i64 ents)
 kinds : ∃ kv, w.cell? ⟨kb, 1, none⟩ = some kv ∧ KindsIn R w kv ks
 draw : ∃ dv, w.cell? ⟨kb, 2, none⟩ = some dv ∧ IntsIn R w dv draws
 c3 : w.cell? ⟨kb, 3, none⟩ = some (.pointer (some ⟨qb, 0, none⟩))
 c4 : w.cell? ⟨kb, 4, none⟩ = some (.int .i64 s.clock)
 c5 : w.cell? ⟨kb, 5, none⟩ = some (.int .i64 s.next)
 c6 : w.cell? ⟨kb, 6, none⟩ = some (.int .i64 s.taken)
 regs : ∀ j, j < 32 → w.cell? ⟨kb, 7 + j, none⟩ = some (.int .i64 (s.regs j))
 room : Room w kb 39
 que : QueP base w qb mb ov s.q
 kq : ¬ QSet qb mb ov kb
 far : ∀ b, R b → b ≠ kb ∧ ¬ QSet qb mb ov b
 rlt : ∀ b, R b → b < w.heap.size
section
variable {R : Nat → Prop} {base : Nat} {w w' : World} {kb qb mb : Nat} {ov : Value} {ents : Int} {ks : List (List Ins)} {draws : List Int} {s : KS}
theorem KerP.klt (h : KerP R base w kb qb mb ov ents ks draws s) : kb < w.heap.size := lt_of_cell h.c0
theorem KerP.lt (h : KerP R base w kb qb mb ov ents ks draws s) : ∀ b, KSet kb qb mb ov b → b < w.heap.size := by
 rintro b (rfl | hb)
 ·exact h.klt
 ·exact h.que.lt b hb
theorem KerP.only {U : Nat → Prop} (h : KerP R base w kb qb mb ov ents ks draws s) (ho : Only U w w') (hU : ∀ b, KSet kb qb mb ov b → ¬ U b) (hR : ∀ b, R b → ¬ U b) : KerP R base w' kb qb mb ov ents ks draws s := by
 have hk := hU kb (.inl rfl)
 obtain ⟨kv, hk1, hk2⟩ := h.kinds
 obtain ⟨dv, hd1, hd2⟩ := h.draw
 exact ⟨ho.at h.c0 hk, ⟨kv, ho.at hk1 hk, hk2.only ho hR⟩, ⟨dv, ho.at hd1 hk, hd2.only ho hR⟩, ho.at h.c3 hk, ho.at h.c4 hk, ho.at h.c5 hk, ho.at h.c6 hk, fun j hj => ho.at (h.regs j hj) hk, h.room.only ho hk, h.que.only ho (fun b hb => hU b (.inr hb)), h.kq, h.far, fun b hb => Nat.lt_of_lt_of_le (h.rlt b hb) ho.size⟩
theorem KerP.below (h : KerP R base w kb qb mb ov ents ks draws s) (hb : Below w.heap.size w w') : KerP R base w' kb qb mb ov ents ks draws s := h.only (Only.new (S := fun _ => False) hb) (by simp) (by simp)
theorem KerP.queue {ov' : Value} {q' : List Ev} (h : KerP R base w kb qb mb ov ents ks draws s) (ho : Only (QSet qb mb ov) w w') (hq : QueP base w' qb mb ov' q') (hm : Moved w ov ov') : KerP R base w' kb qb mb ov' ents ks draws { s with q := q' } := by
 have hk := h.kq
 have hR := fun b hb => (h.far b hb).2
 obtain ⟨kv, hk1, hk2⟩ := h.kinds
 obtain ⟨dv, hd1, hd2⟩ := h.draw
 have hset : ∀ b, b < w.heap.size → ¬ QSet qb mb ov b → ¬ QSet qb mb ov' b := by
  rintro b hb hn (rfl | rfl | hc)
  ·exact hn (.inl rfl)
  ·exact hn (.inr (.inl rfl))
  ·rcases hm with e | ⟨g, e, hg⟩
   ·exact hn (.inr (.inr (hc.trans e)))
   ·rw [e] at hc; simp at hc; omega
 exact ⟨ho.at h.c0 hk, ⟨kv, ho.at hk1 hk, hk2.only ho hR⟩, ⟨dv, ho.at hd1 hk, hd2.only ho hR⟩, ho.at h.c3 hk, ho.at h.c4 hk, ho.at h.c5 hk, ho.at h.c6 hk, fun j hj => ho.at (h.regs j hj) hk, h.room.only ho hk, hq, hset kb h.klt hk, fun b hb => ⟨(h.far b hb).1, hset b (h.rlt b hb) (h.far b hb).2⟩, fun b hb => Nat.lt_of_lt_of_le (h.rlt b hb) ho.size⟩
theorem KerP.wrote (h : KerP R base w kb qb mb ov ents ks draws s) {o : Nat} {v : Value} {s' : KS} (ho : 4 ≤ o) (ho' : o < 39) (hq : s'.q = s.q)
  (h4 : (w.setCell ⟨kb, o, none⟩ v).cell? ⟨kb, 4, none⟩ = some (.int .i64 s'.clock)) (h5 : (w.setCell ⟨kb, o, none⟩ v).cell? ⟨kb, 5, none⟩ = some (.int .i64 s'.next)) (h6 : (w.setCell ⟨kb, o, none⟩ v).cell? ⟨kb, 6, none⟩ = some (.int .i64 s'.taken))
  (hr : ∀ j, j < 32 → (w.setCell ⟨kb, o, none⟩ v).cell? ⟨kb, 7 + j, none⟩ = some (.int .i64 (s'.regs j))) : KerP R base (w.setCell ⟨kb, o, none⟩ v) kb qb mb ov ents ks draws s' := by
 have hon : Only (· = kb) w (w.setCell ⟨kb, o, none⟩ v) := Only.setCell (S := (· = kb)) (Only.refl _ _) (p := ⟨kb, o, none⟩) rfl _
 have hR := fun b hb => (h.far b hb).1
 obtain ⟨kv, hk1, hk2⟩ := h.kinds
 obtain ⟨dv, hd1, hd2⟩ := h.draw
 have oth : ∀ i, i < 4 → (w.setCell ⟨kb, o, none⟩ v).cell? ⟨kb, i, none⟩ = w.cell? ⟨kb, i, none⟩ := fun i hi => World.cell?_setCell_other _ _ _ _ (by simp <;> omega)
 refine ⟨(oth 0 (by omega)).trans h.c0, ⟨kv, (oth 1 (by omega)).trans hk1, hk2.only hon hR⟩, ⟨dv, (oth 2 (by omega)).trans hd1, hd2.only hon hR⟩, (oth 3 (by omega)).trans h.c3, h4, h5, h6, hr, h.room.setCell _ _, ?_, h.kq, h.far, fun b hb => Nat.lt_of_lt_of_le (h.rlt b hb) hon.size⟩
 rw [hq]
 exact h.que.only hon (fun b hb hc => by subst hc; exact h.kq hb)
theorem KerP.setClock (h : KerP R base w kb qb mb ov ents ks draws s) (t : Int) : KerP R base (w.setCell ⟨kb, 4, none⟩ (.int .i64 t)) kb qb mb ov ents ks draws { s with clock := t } :=
 h.wrote (by omega) (by omega) rfl (World.cell?_setCell_same _ _ _ h.c4) ((World.cell?_setCell_other _ _ _ _ (by simp)).trans h.c5) ((World.cell?_setCell_other _ _ _ _ (by simp)).trans h.c6) (fun j hj => (World.cell?_setCell_other _ _ _ _ (by simp <;> omega)).trans (h.regs j hj))
theorem KerP.setNext (h : KerP R base w kb qb mb ov ents ks draws s) (t : Int) : KerP R base (w.setCell ⟨kb, 5, none⟩ (.int .i64 t)) kb qb mb ov ents ks draws { s with next := t } :=
 h.wrote (by omega) (by omega) rfl ((World.cell?_setCell_other _ _ _ _ (by simp)).trans h.c4) (World.cell?_setCell_same _ _ _ h.c5) ((World.cell?_setCell_other _ _ _ _ (by simp)).trans h.c6) (fun j hj => (World.cell?_setCell_other _ _ _ _ (by simp <;> omega)).trans (h.regs j hj))
theorem KerP.setTaken (h : KerP R base w kb qb mb ov ents ks draws s) (t : Nat) : KerP R base (w.setCell ⟨kb, 6, none⟩ (.int .i64 t)) kb qb mb ov ents ks draws { s with taken := t } :=
 h.wrote (by omega) (by omega) rfl ((World.cell?_setCell_other _ _ _ _ (by simp)).trans h.c4) ((World.cell?_setCell_other _ _ _ _ (by simp)).trans h.c5) (World.cell?_setCell_same _ _ _ h.c6) (fun j hj => (World.cell?_setCell_other _ _ _ _ (by simp <;> omega)).trans (h.regs j hj))
def putR (f : Nat → Int) (i : Nat) (v : Int) : Nat → Int := fun k => if k = i then v else f k
theorem KerP.setReg (h : KerP R base w kb qb mb ov ents ks draws s) {i : Nat} (hi : i < 32) (v : Int) : KerP R base (w.setCell ⟨kb, 7 + i, none⟩ (.int .i64 v)) kb qb mb ov ents ks draws { s with regs := putR s.regs i v } := by
 refine h.wrote (by omega) (by omega) rfl ((World.cell?_setCell_other _ _ _ _ (by simp <;> omega)).trans h.c4) ((World.cell?_setCell_other _ _ _ _ (by simp <;> omega)).trans h.c5) ((World.cell?_setCell_other _ _ _ _ (by simp <;> omega)).trans h.c6) (fun j hj => ?_)
 by_cases hji : j = i
 ·subst hji
  rw [World.cell?_setCell_same _ _ _ (h.regs j hj)]
  simp [putR]
 ·rw [World.cell?_setCell_other _ _ _ _ (by simp <;> omega), h.regs j hj]
  simp [putR, hji]
end
def cutF (n : Int) : Int := min (max n (-1000000000)) 1000000000
theorem cutF_le (n : Int) : -1000000000 ≤ cutF n ∧ cutF n ≤ 1000000000 := by unfold cutF; omega
def doI (draws : List Int) (E : Nat) (x : Ins) (s : KS) : KS × List Int × Int :=
 let a := E * 4 + x.a.toNat
 if x.op = 1 then ({ s with regs := putR s.regs a x.b }, [], 0)
 else if x.op = 2 then ({ s with regs := putR s.regs a (cutF (s.regs a + s.regs (E * 4 + x.b.toNat))) }, [], 0)
 else if x.op = 3 then ({ s with regs := putR s.regs a (cutF (s.regs a - s.regs (E * 4 + x.b.toNat))) }, [], 0)
 else if x.op = 4 then
  match draws[s.taken]? with
  | none => ({ s with regs := putR s.regs a 0 }, [], 5)
  | some d => ({ s with taken := s.taken + 1, regs := putR s.regs a (d % x.b) }, [], 0)
 else if x.op = 6 then
  if ¬ (s.q.length < 16 ∧ s.next < 1000000000) then ({ s with regs := putR s.regs (E * 4 + 3) 0 }, [], 3)
  else if 1000000000000 < s.clock + max (s.regs (E * 4 + x.c.toNat)) 0 then ({ s with regs := putR s.regs (E * 4 + 3) 0 }, [], 4)
  else ({ s with q := insF ⟨s.clock + max (s.regs (E * 4 + x.c.toNat)) 0, s.next, x.a, x.b⟩ s.q, next := s.next + 1, regs := putR s.regs (E * 4 + 3) s.next }, [], 0)
 else if x.op = 7 then ({ s with q := outF (s.regs a) s.q }, [], 0)
 else (s, [s.regs a], 0)
def execS (draws : List Int) (E : Nat) : List Ins → Nat → KS → List Int → KS × List Int × Int
 | [], _, s, told => (s, told, 0)
 | _ :: l, k + 1, s, told => execS draws E l k s told
 | x :: l, 0, s, told =>
  if x.op = 5 then
   if s.regs (E * 4 + x.a.toNat) ≤ 0 then execS draws E l x.b.toNat s told else execS draws E l 0 s told
  else
   match doI draws E x s with
   | (s', t, why) => if why = 0 then execS draws E l 0 s' (told ++ t) else (s', [], why)
def execF (draws : List Int) (E : Nat) (l : List Ins) (s : KS) (told : List Int) : KS × List Int × Int := execS draws E l 0 s told
theorem execS_drop (draws : List Int) (E : Nat) : ∀ (l : List Ins) (k : Nat) (s : KS) (told : List Int), execS draws E l k s told = execF draws E (l.drop k) s told
 | [], k, s, told => by simp [execF, execS]
 | x :: l, 0, s, told => rfl
 | x :: l, k + 1, s, told => by rw [execS]; simpa using execS_drop draws E l k s told
def happenF (ks : List (List Ins)) (draws : List Int) (e : Ev) (s : KS) : KS × List Int × Int :=
 execF draws e.entity.toNat (ks.getD e.kind.toNat []) { s with q := outF e.number s.q, clock := e.time } []
structure KOk (ents : Int) (nk : Nat) (draws : List Int) (s : KS) : Prop where
 taken : s.taken ≤ draws.length
 clock : 0 ≤ s.clock ∧ s.clock ≤ 1000000000000
 next : 1 ≤ s.next ∧ s.next ≤ 1000000000
 regs : ∀ j, -1000000000 ≤ s.regs j ∧ s.regs j ≤ 1000000000
 evs : ∀ e ∈ s.q, s.clock ≤ e.time ∧ e.time ≤ 1000000000000 ∧ 1 ≤ e.number ∧ e.number < s.next ∧ 0 ≤ e.kind ∧ e.kind < nk ∧ 0 ≤ e.entity ∧ e.entity < ents
 len : s.q.length ≤ 16
theorem KOk.reg {ents : Int} {nk : Nat} {draws : List Int} {s : KS} (h : KOk ents nk draws s) {i : Nat} {v : Int} (hv : -1000000000 ≤ v ∧ v ≤ 1000000000) : KOk ents nk draws { s with regs := putR s.regs i v } := by
 refine ⟨h.taken, h.clock, h.next, ?_, h.evs, h.len⟩
 intro j
 simp only [putR]
 split
 ·exact hv
 ·exact h.regs j
theorem doI_ok {ents : Int} {nk : Nat} {draws : List Int} {s : KS} {x : Ins} {E : Nat} (h : KOk ents nk draws s) (hx : mayF ents nk x.op x.a x.b x.c = true) (h5 : x.op ≠ 5) (hd : ∀ d ∈ draws, 0 ≤ d ∧ d ≤ 1000000000) : KOk ents nk draws (doI draws E x s).1 := by
 unfold doI
 simp only
 by_cases o1 : x.op = 1
 ·rw [if_pos o1]
  refine h.reg ?_
  simp [mayF, o1, inB] at hx; omega
 rw [if_neg o1]
 by_cases o2 : x.op = 2
 ·rw [if_pos o2]; exact h.reg (cutF_le _)
 rw [if_neg o2]
 by_cases o3 : x.op = 3
 ·rw [if_pos o3]; exact h.reg (cutF_le _)
 rw [if_neg o3]
 by_cases o4 : x.op = 4
 ·rw [if_pos o4]
  split
  ·exact h.reg (by omega)
  ·rename_i d hdd
   have hb : 1 ≤ x.b ∧ x.b ≤ 1000000000 := by simp [mayF, o4, inB] at hx; omega
   have hdr := hd d (List.mem_of_getElem? hdd)
   have hm := Int.emod_lt_of_pos d (show 0 < x.b by omega)
   have hm0 := Int.emod_nonneg d (show x.b ≠ 0 by omega)
   have h' := h.reg (i := E * 4 + x.a.toNat) (v := d % x.b) (by omega)
   refine ⟨?_, h'.clock, h'.next, h'.regs, h'.evs, h'.len⟩
   have := (List.getElem?_eq_some_iff.1 hdd).1
   simp; omega
 rw [if_neg o4]
 by_cases o6 : x.op = 6
 ·rw [if_pos o6]
  split
  ·exact h.reg (by omega)
  ·rename_i hroom
   have hroom' : s.q.length < 16 ∧ s.next < 1000000000 := Classical.not_not.1 hroom
   split
   ·exact h.reg (by omega)
   ·rename_i hlate
    have hn := h.next
    have hc := h.clock
    have h' := h.reg (i := E * 4 + 3) (v := s.next) (by omega)
    have hxx : 0 ≤ x.a ∧ x.a ≤ nk - 1 ∧ 0 ≤ x.b ∧ x.b ≤ ents - 1 := by simp [mayF, o6, inB] at hx; omega
    refine ⟨h'.taken, h'.clock, by simp; omega, h'.regs, ?_, by simp [insF_length]; omega⟩
    intro e he
    rcases (insF_mem _ _ _).1 he with rfl | he
    ·simp; omega
    ·have := h.evs e he
     simp; omega
 rw [if_neg o6]
 by_cases o7 : x.op = 7
 ·rw [if_pos o7]
  refine ⟨h.taken, h.clock, h.next, h.regs, ?_, ?_⟩
  ·intro e he; exact h.evs e ((outF_mem _ _ _).1 he).1
  ·have := h.len
   have := List.length_filter_le (fun e : Ev => decide (e.number ≠ s.regs (E * 4 + x.a.toNat))) s.q
   simp only [outF]; omega
 ·rw [if_neg o7]; exact h
def drawB (n : Int) : Bool := inB n 0 1000000000
def drawsF (l : List Int) : Bool := decide (l.length ≤ 1000) && l.all drawB
def badF : List Int → Int → Int
 | [], _ => -1
 | x :: l, i => if drawB x then badF l (i + 1) else i
theorem badF_drop {l : List Int} {k : Nat} (h : k < l.length) : badF (l.drop k) k = if drawB l[k] then badF (l.drop (k + 1)) ((k + 1 : Nat) : Int) else (k : Int) := by
 rw [List.drop_eq_getElem_cons h, badF]; simp
theorem badF_all : ∀ (l : List Int) (i : Int), 0 ≤ i → decide (0 ≤ badF l i) = !l.all drawB
 | [], i, h => by simp [badF]
 | x :: l, i, h => by
  rw [badF]
  have ih := badF_all l (i + 1) (by omega)
  cases hx : drawB x
  ·simp [hx, h]
  ·simp [hx, ih]
theorem indexFunc_some (b off cap : Nat) (l : List Int) (w : World) (hl : l.length ≤ 1000) (hc : RowAt w b off (ints l)) :
  Calls Tryz.prog 120 #[.slice (some ⟨b, off, none⟩) l.length cap, .func (.func 101) #[] #[]] w
   fun e w' => e = .returned (.int .i64 (badF l 0)) ∧ w' = w := by
 go_enter Tryz.func120, Tryz.ntmps120
 go_wp2
 go_loop [8, 5] (fun i _ => ∃ k : Nat, k ≤ l.length ∧ i = .int .i64 k ∧ Hid (badF (l.drop k) k = badF l 0)) (fun i _ => l.length - (intOf i).toNat)
 case atStart => exact ⟨0, by omega, rfl, rfl⟩
 case round =>
  obtain ⟨k, hk, rfl, hb⟩ := hrel
  by_cases hlt : k < l.length
  ·have hx : w.cell? ⟨b, off + k, none⟩ = some (.int .i64 l[k]) := hc k _ (by simp [ints, hlt])
   have hd := badF_drop hlt
   rcases hm : drawB l[k] with _ | _
   ·have Hd : Hid (badF l 0 = k) := by show _ = _; rw [← hb.out, hd, hm]; rfl
    have hm' : inB l[k] 0 1000000000 = false := hm
    clear hd hm
    go_wp2_with (go_at_call 101; refine (notDraw_any _ _).mono ?_; rintro e w' ⟨rfl, rfl⟩)
    go_ret
    exact ⟨by rw [Hd.out]; simp, rfl⟩
   ·have Hd : Hid (badF (l.drop (k + 1)) ((k + 1 : Nat) : Int) = badF l 0) := by show _ = _; rw [← hb.out, hd, hm]; rfl
    have hm' : inB l[k] 0 1000000000 = true := hm
    clear hd hm
    go_wp2_with (go_at_call 101; refine (notDraw_any _ _).mono ?_; rintro e w' ⟨rfl, rfl⟩)
    go_round
    case rel => exact ⟨k + 1, by omega, by go_num, Hd⟩
    case measure => simp [intOf]; omega
  ·have Hd : Hid (badF l 0 = -1) := by
    show _ = _; rw [← hb.out, List.drop_of_length_le (by omega)]; rfl
   go_wp2
   go_ret
   exact ⟨by rw [Hd.out]; simp, rfl⟩
theorem indexFunc_nil (w : World) :
  Calls Tryz.prog 120 #[.slice none 0 0, .func (.func 101) #[] #[]] w
   fun e w' => e = .returned (.int .i64 (badF [] 0)) ∧ w' = w := by
 go_enter Tryz.func120, Tryz.ntmps120
 go_wp2
 go_loop [8] (fun i => i = .int .i64 0) (fun _ => 0)
 case atStart => rfl
 case round =>
  obtain rfl := hrel
  go_wp2
  go_ret
  exact ⟨rfl, rfl⟩
theorem indexFunc_any {R : Nat → Prop} (v : Value) (l : List Int) (w : World) (hl : l.length ≤ 1000) (hv : IntsIn R w v l) :
  Calls Tryz.prog 120 #[v, .func (.func 101) #[] #[]] w
   fun e w' => e = .returned (.int .i64 (badF l 0)) ∧ w' = w := by
 obtain ⟨_, ⟨rfl, rfl⟩ | ⟨b, off, cap, rfl, _, hc⟩⟩ := hv
 ·exact indexFunc_nil w
 ·exact indexFunc_some b off cap l w hl hc
theorem containsFunc_any {R : Nat → Prop} (v : Value) (l : List Int) (w : World) (hl : l.length ≤ 1000) (hv : IntsIn R w v l) :
  Calls Tryz.prog 100 #[v, .func (.func 101) #[] #[]] w
   fun e w' => e = .returned (.bool (!l.all drawB)) ∧ w' = w := by
 have h := badF_all l 0 (Int.le_refl _)
 rw [← h]
 clear h
 go_enter Tryz.func100, Tryz.ntmps100
 go_wp2_with (go_at_call 120; refine (indexFunc_any v l _ hl hv).mono ?_; rintro e w' ⟨rfl, rfl⟩)
 go_ret
 exact ⟨rfl, rfl⟩
theorem areDraws_any {R : Nat → Prop} (v : Value) (l : List Int) (w : World) (hv : IntsIn R w v l) :
  Calls Tryz.prog 60 #[v] w
   fun e w' => e = .returned (.bool (drawsF l)) ∧ w' = w := by
 obtain ⟨sa, sc, rfl⟩ := hv.form
 by_cases hl : l.length ≤ 1000
 ·have h1 : decide ((l.length : Int) ≤ 1000) = true := by simp; omega
  have Hd : Hid (drawsF l = l.all drawB) := by show _ = _; simp [drawsF, hl]
  go_enter Tryz.func60, Tryz.ntmps60
  go_wp2_with (go_at_call 100; refine (containsFunc_any _ l _ hl hv).mono ?_; rintro e w' ⟨rfl, rfl⟩)
  go_ret
  exact ⟨by rw [Hd.out]; simp, rfl⟩
 ·have h1 : decide ((l.length : Int) ≤ 1000) = false := by simp; omega
  have Hd : Hid (drawsF l = false) := by show _ = _; simp [drawsF, hl]
  go_enter Tryz.func60, Tryz.ntmps60
  go_wp2
  go_ret
  exact ⟨by rw [Hd.out]; simp, rfl⟩
theorem CodeV.src {B : Nat} {w : World} {v : Value} {l : List Ins} (h : CodeV B w v l) : SrcAt w v l.length (flat l) := by
 obtain ⟨_, ⟨rfl, rfl⟩ | ⟨b, off, cap, rfl, _, hc⟩ | ⟨a, cap, rfl, rfl⟩⟩ := h
 ·exact .inl ⟨rfl, rfl, rfl⟩
 ·exact .inr (.inl ⟨b, off, cap, rfl, hc.row⟩)
 ·exact .inr (.inr ⟨a, cap, rfl, rfl⟩)
def CopyTo (lo : Nat) (w : World) (g k : Nat) (ks : List (List Ins)) : Prop :=
 ∀ (i : Nat) l, i < k → ks[i]? = some l → ∃ v, w.cell? ⟨g, i, none⟩ = some v ∧ CodeIn (fun b => lo ≤ b ∧ b < w.heap.size) w v l
theorem CopyTo.step {lo : Nat} {w w1 : World} {g k : Nat} {ks : List (List Ins)} (h : CopyTo lo w g k ks) (hg : g < lo) (hz : lo ≤ w.heap.size) (hb : Below w.heap.size w w1) (v : Value) (hk : k < ks.length)
  (hv : CodeIn (fun b => lo ≤ b ∧ b < w1.heap.size) w1 v ks[k]) (hr : (w1.cell? ⟨g, k, none⟩).isSome = true) : CopyTo lo (w1.setCell ⟨g, k, none⟩ v) g (k + 1) ks := by
 have hsz : (w1.setCell ⟨g, k, none⟩ v).heap.size = w1.heap.size := by simp [World.setCell]
 have ho : Only (· = g) w1 (w1.setCell ⟨g, k, none⟩ v) := Only.setCell (S := (· = g)) (Only.refl _ _) rfl _
 have hbs := hb.size
 intro i l hi hl
 rw [hsz]
 by_cases hik : i = k
 ·subst hik
  have : l = ks[i] := by rw [List.getElem?_eq_getElem hk] at hl; exact (Option.some.inj hl).symm
  subst this
  exact ⟨v, World.cell?_setCell_same' _ _ _ hr, hv.only ho (by intro b hb; omega)⟩
 ·obtain ⟨u, h1, h2⟩ := h i l (by omega) hl
  refine ⟨u, ?_, ?_⟩
  ·rw [World.cell?_setCell_other _ _ _ _ (by simp; try omega)]; exact below_at hb h1 (by omega)
  ·exact ((h2.only (Only.new (S := fun _ => False) hb) (by simp)).mono (R' := fun b => lo ≤ b ∧ b < w1.heap.size) (by intro b hb; omega)).only ho (by intro b hb; omega)
theorem mCopy_any (ents : Int) (b off cap : Nat) (ks : List (List Ins)) (w : World) (hl : ks.length ≤ 5864062014805) (hbw : b < w.heap.size) (hK : KindsAt w.heap.size w b off ks) :
  Calls Tryz.prog 61 #[.agg #[.int .i64 ents, .slice (some ⟨b, off, none⟩) ks.length cap]] w
   fun e w' => ∃ sa sc, e = .returned (.agg #[.int .i64 ents, .slice sa ks.length sc]) ∧ Below w.heap.size w w' ∧ KindsIn (fun b => w.heap.size ≤ b ∧ b < w'.heap.size) w' (.slice sa ks.length sc) ks := by
 go_enter Tryz.func61, Tryz.ntmps61
 go_wp2_with (at_make; refine wpList_make_alloc _ rfl (.tmp 8) (.tmp 8) 36 rfl 60 (.slice none 0 0) 1 24 Tryz.underlying36 Tryz.info60 _ _ _ _ ks.length rfl rfl (by simp) (by simp) (by omega) (by omega) ?_)
 go_loopw [13, 4, 5] (fun i _ _ wr => ∃ k : Nat, k ≤ ks.length ∧ i = .int .i64 k ∧ Below w.heap.size w wr ∧ CopyTo (w.heap.size + 1 + 1 + 1) wr (w.heap.size + 1 + 1) k ks ∧ Room wr (w.heap.size + 1 + 1) ks.length ∧
   wr.cell? ⟨w.heap.size, 0, none⟩ = some (.int .i64 ents) ∧ Room wr (w.heap.size + 1) 2 ∧ w.heap.size + 1 + 1 < wr.heap.size) (fun i _ _ _ => ks.length - (intOf i).toNat)
 case atStart =>
  obtain ⟨W, hW⟩ : ∃ W, W = (w.alloc (Obj.cells #[Value.int IntKind.i64 ents, Value.slice (some { block := b, off := off }) ks.length cap] 38)).alloc (Obj.cells #[Value.int IntKind.i64 0, Value.slice none 0 0] 38) := ⟨_, rfl⟩
  have hWs : W.heap.size = w.heap.size + 1 + 1 := by rw [hW]; simp
  have hWb : Below w.heap.size w W := by rw [hW]; exact ((Below.refl _ _).alloc (Nat.le_refl _) _).alloc (by simp) _
  have hW1 : W.cell? ⟨w.heap.size, 0, none⟩ = some (.int .i64 ents) := by rw [hW]; simp [go_sem]
  have hW3 : Room W (w.heap.size + 1) 2 := by
   rw [hW]; intro j hj; have : j = 0 ∨ j = 1 := by omega
   rcases this with rfl | rfl <;> simp [go_sem]
  have hB := (Below.refl W.heap.size W).alloc (Nat.le_refl _) (.cells (madeCells #[.slice none 0 0] ks.length) 60)
  have hR := room_made W #[.slice none 0 0] ks.length 60
  rw [hWs] at hB hR
  rw [← hW]
  exact ⟨0, by omega, rfl, hWb.trans (hB.mono (by omega)), fun i l hi => absurd hi (by omega), hR, below_at hB hW1 (by omega), hW3.below hB (by omega), by simp [hWs]⟩
 case round =>
  obtain ⟨k, hk, rfl, hbel, hC, hR, hm0, hR1, hz⟩ := hrel
  by_cases hlt : k < ks.length
  ·obtain ⟨v, hv0, hv⟩ := (hK.below hbel hbw (Nat.le_refl _)) k ks[k] (by simp)
   have Hs := hide hv.src
   have Hl := hide hv.1
   have Hlt : Hid (k < ks.length) := hlt
   go_wp2_with (at_builtin; refine wpList_append_src rfl (.const (.slice none 0 0)) (.tmp 20) 60 rfl (w.heap.size + 1 + 1 + 1) 59 (.agg #[.int .i64 0, .int .i64 0, .int .i64 0, .int .i64 0]) 4 32 Tryz.underlying60 Tryz.info59 rfl (by omega) _ 0 [] rfl (World.ownsRow_nil _ _ _ _) v ks[k].length (flat ks[k]) rfl Hs.out (flat_length _) (flat_one _) (by have := Hl.out; omega) (by have := Hl.out; omega) (by omega) ?_)
   intro v1 w1 hown hgr hnil
   have hb1 : Below wr.heap.size wr w1 := (Below.refl _ _).grown hgr.out (Nat.le_refl _) (by intro k hk; simp [Value.ownBlock] at hk)
   have hcode := owns_code (l := ks[k]) (by simpa using hown.out) hv.1
   obtain ⟨hs1, hf1⟩ := (hR.below hb1 (by omega)) k hlt
   obtain ⟨u1, hu1⟩ := Option.isSome_iff_exists.1 hs1
   obtain ⟨sa, sc, rfl⟩ := hcode.form
   have HC := hide hcode
   clear hcode
   go_wp2
   go_roundw
   case rel =>
    have hbs := hb1.size
    refine ⟨k + 1, by omega, by go_num, (hbel.trans (hb1.mono (by omega))).setCell (by simp; omega) _, hC.step (by omega) (by omega) hb1 _ hlt HC.out hs1, (hR.below hb1 (by omega)).setCell _ _, ?_, (hR1.below hb1 (by omega)).setCell _ _, by simp [World.setCell]; omega⟩
    rw [World.cell?_setCell_other _ _ _ _ (by simp; try omega)]; exact below_at hb1 hm0 (by omega)
   case measure => simp [intOf]; omega
  ·have hk' : k = ks.length := by omega
   subst hk'
   obtain ⟨s1, f1⟩ := hR1 0 (by omega)
   obtain ⟨s2, f2⟩ := hR1 1 (by omega)
   obtain ⟨u1, hu1⟩ := Option.isSome_iff_exists.1 s1
   obtain ⟨u2, hu2⟩ := Option.isSome_iff_exists.1 s2
   clear s1 s2
   go_wp2
   refine bodyPost_ret (v := .agg #[.int .i64 ents, .slice (some ⟨w.heap.size + 1 + 1, 0, none⟩) ks.length ks.length]) (by simp [results, Tryz.results61, go_sem, hu1, hu2]) rfl ⟨_, _, rfl, (hbel.setCell (by simp) _).setCell (by simp) _, hl, .inr ⟨w.heap.size + 1 + 1, 0, _, rfl, by simp [World.setCell]; omega, ?_⟩⟩
   intro i l hil
   have hilt : i < ks.length := (List.getElem?_eq_some_iff.1 hil).1
   obtain ⟨v, h1, h2⟩ := hC i l hilt hil
   have ho : Only (· = w.heap.size + 1) wr _ := ((Only.refl (· = w.heap.size + 1) wr).setCell (p := ⟨w.heap.size + 1, 0, none⟩) rfl (.int .i64 ents)).setCell (p := ⟨w.heap.size + 1, 1, none⟩) rfl (.slice (some ⟨w.heap.size + 1 + 1, 0, none⟩) ks.length ks.length)
   refine ⟨v, ?_, (h2.only ho (by intro b hb; omega)).mono (by intro b hb; simp [World.setCell]; omega)⟩
   rw [Nat.zero_add]; exact ho.at h1 (by omega)
end Go.Proofs.YtndlmgocldckfaaGreat
