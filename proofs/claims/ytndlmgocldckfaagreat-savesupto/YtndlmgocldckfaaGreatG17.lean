import Derived.Test.YtndlmgocldckfaaGreatG11
import Derived.Test.YtndlmgocldckfaaGreatG16
import Derived.Test.YtndlmgocldckfaaGreatG12
import Derived.Laws.StructEq
import Derived.BigQuiet
import Derived.Deep.QuietTactic
namespace Go.Proofs.YtndlmgocldckfaaGreat
open Go.RowKit
set_option linter.unusedVariables false
set_option linter.unusedSimpArgs false
set_option maxRecDepth 100000
set_option maxHeartbeats 4000000
def regF (ents : Int) (s : KS) (ent r : Int) : Int × Int := if inB ent 0 (ents - 1) && inB r 0 3 then (s.regs (ent.toNat * 4 + r.toNat), 0) else (0, 1)
theorem tReg_any {R : Nat → Prop} {base : Nat} (kb qb mb : Nat) (ov : Value) (ents : Int) (ks : List (List Ins)) (draws : List Int) (s : KS) (ent r : Int) (w : World) (h : KerP R base w kb qb mb ov ents ks draws s) (he : 1 ≤ ents) (he' : ents ≤ 8) :
  Calls Tryz.prog 50 #[.pointer (some ⟨kb, 0, none⟩), .int .i64 ent, .int .i64 r] w fun e w' => e = .returned (.tuple #[.int .i64 (regF ents s ent r).1, .int .i64 (regF ents s ent r).2]) ∧ Below w.heap.size w w' := by
 obtain ⟨kv, h1, h6⟩ := h.kinds
 obtain ⟨ka, kc, rfl⟩ := h6.form
 have h0 := h.c0
 have hr := h.regs
 have hbk := lt_of_cell h0
 clear h h6
 rcases h1' : inB ent 0 (ents - 1) with _ | _
 ·have HE : Hid (regF ents s ent r = (0, 1)) := by show _ = _; simp [regF, h1']
  clear hr
  go_enter Tryz.func50, Tryz.ntmps50
  go_wp2_with (go_at_call 84; refine (hasEntity_any _ _ _ _ _ _ he he').mono ?_; rintro e w2 ⟨rfl, hb2⟩; rw [h1'])
  go_ret2
  exact ⟨by rw [HE.out]; simp, hb2⟩
 ·rcases h2' : inB r 0 3 with _ | _
  ·have HE : Hid (regF ents s ent r = (0, 1)) := by show _ = _; simp [regF, h1', h2']
   clear hr
   go_enter Tryz.func50, Tryz.ntmps50
   go_wp2_with (first | (go_at_call 84; refine (hasEntity_any _ _ _ _ _ _ he he').mono ?_; rintro e w2 ⟨rfl, hb2⟩; rw [h1']) | (go_at_call 94; refine (isRegister_any _ _).mono ?_; rintro e w3 ⟨rfl, rfl⟩; rw [h2']))
   go_ret2
   exact ⟨by rw [HE.out]; simp, hb2⟩
  ·have b1 : 0 ≤ ent ∧ ent ≤ ents - 1 := by simpa [inB] using h1'
   have b2 : 0 ≤ r ∧ r ≤ 3 := by simpa [inB] using h2'
   obtain ⟨b11, b12⟩ := b1
   obtain ⟨b21, b22⟩ := b2
   obtain ⟨en, rfl⟩ := Int.eq_ofNat_of_zero_le b11
   obtain ⟨rn, rfl⟩ := Int.eq_ofNat_of_zero_le b21
   have hcell := hr (en * 4 + rn) (by omega)
   have HE : Hid (regF ents s en rn = (s.regs (en * 4 + rn), 0)) := by show _ = _; simp [regF, h1', h2']
   rw [← Nat.add_assoc] at hcell
   clear hr
   generalize s.regs (en * 4 + rn) = v at hcell HE
   go_enter Tryz.func50, Tryz.ntmps50
   go_wp2_with (first | (go_at_call 84; refine (hasEntity_any _ _ _ _ _ _ he he').mono ?_; rintro e w2 ⟨rfl, hb2⟩; rw [h1']; have gcell := below_at hb2 hcell hbk) | (go_at_call 94; refine (isRegister_any _ _).mono ?_; rintro e w3 ⟨rfl, rfl⟩; rw [h2']))
   go_ret2
   exact ⟨by rw [HE.out]; simp, hb2⟩
theorem kind_facts {ents : Int} {ks : List (List Ins)} (h : kindF ents ks = none) : (1 ≤ ents ∧ ents ≤ 8) ∧ 1 ≤ ks.length ∧ ks.length ≤ 8 := by
 unfold kindF at h
 split at h
 ·simp at h
 ·rename_i hn
  simp [inB] at hn
  omega
theorem draws_facts {draws : List Int} (h : drawsF draws = true) : draws.length ≤ 1000 := by
 simp [drawsF] at h; exact h.1
def MutS (ps : List Pair) (b : Nat) : Prop := ∃ p ∈ ps, p.has b
theorem regL_get (ents : Int) (s : KS) (i : Nat) (h : i < (ents * 4).toNat) : (regL ents s)[i]? = some (s.regs i) := by
 simp [regL, h]
theorem regL_length (ents : Int) (s : KS) : (regL ents s).length = (ents * 4).toNat := by simp [regL]
theorem asked_plan {base : Nat} (wb : Nat) (lv : Value) (ps : List Pair) (bk : BookD) (i : Nat) (p : Pair) (a b c d ents : Int) (kv l rv qv sv : Value) (w : World) (h : Inv base w wb lv ps bk) (hi : ps[i]? = some p) :
  Calls Tryz.prog 17 #[.pointer (some ⟨wb, 0, none⟩), .agg #[.pointer (some ⟨p.kb, 0, none⟩), .pointer (some ⟨p.rb, 0, none⟩)], .agg #[.int .i64 3, .int .i64 a, .int .i64 b, .int .i64 c, .int .i64 d, .int .i64 ents, kv, l, rv, qv, sv]] w
   fun e w' => e = .returned (.bool true) ∧ Only (MutS ps) w w' ∧ ∃ ps', ps'.length = ps.length ∧ Inv base w' wb lv ps' bk := by
 have hpm : p ∈ ps := List.mem_of_getElem? hi
 have hOK := h.pairs p hpm
 obtain ⟨⟨he1, he8⟩, hk1, hk8⟩ := kind_facts hOK.kind
 have hlt := hOK.lt
 have hsz := h.lo
 obtain ⟨W, hW⟩ : ∃ W, W = (w.alloc (.cells #[.pointer (some ⟨p.kb, 0, none⟩), .pointer (some ⟨p.rb, 0, none⟩)] 52)).alloc (.cells #[.int .i64 3, .int .i64 a, .int .i64 b, .int .i64 c, .int .i64 d, .int .i64 ents, kv, l, rv, qv, sv] 41) := ⟨_, rfl⟩
 have hb : Below w.heap.size w W := by rw [hW]; exact ((Below.refl _ _).alloc (Nat.le_refl _) _).alloc (by simp) _
 have hWs : W.heap.size = w.heap.size + 1 + 1 := by rw [hW]; simp
 have c1 : W.cell? ⟨w.heap.size, 1, none⟩ = some (.pointer (some ⟨p.rb, 0, none⟩)) := by rw [hW]; simp [go_sem]
 have c2 : W.cell? ⟨w.heap.size + 1, 2, none⟩ = some (.int .i64 b) := by rw [hW]; simp [go_sem]
 have c3 : W.cell? ⟨w.heap.size + 1, 3, none⟩ = some (.int .i64 c) := by rw [hW]; simp [go_sem]
 have c4 : W.cell? ⟨w.heap.size + 1, 4, none⟩ = some (.int .i64 d) := by rw [hW]; simp [go_sem]
 have HI := hide (h.below hb)
 have HO := hide (HI.out.pairs p hpm)
 have Hlt := hide hlt
 have hnx := hOK.fit.ok.next
 have HB := hide hb
 have HOK := hide hOK
 clear hlt hOK hb
 rcases hyes : argF p.ents p.ks.length p.s b c d with _ | _
 ·have Hyes := hide hyes
  clear hyes
  go_enter Tryz.func17, Tryz.ntmps17
  go_wp2_with fail
  rw [← hW]
  refine (tPlan_arg p.kb p.qb p.mb p.ov p.ents p.ks p.draws p.s _ _ _ _ HO.out.ker he1 he8 hk8 Hyes.out).mono ?_
  rintro e w2 ⟨rfl, hb2⟩
  have g1 := below_at hb2 c1 (by omega)
  have g2 := below_at hb2 c2 (by omega)
  have g3 := below_at hb2 c3 (by omega)
  have g4 := below_at hb2 c4 (by omega)
  have hz2 := hb2.size
  have HI2 := hide (HI.out.below hb2)
  have HB2 := hide (HB.out.trans (hb2.mono (by omega)))
  clear c1 c2 c3 c4 hb2
  go_wp2_with fail
  refine (rPlan_arg p.rb p.ents p.ks p.draws p.s.taken p.s.clock p.s.next _ p.s.q _ _ _ _ (HI2.out.pairs p hpm).ref he1 he8 hk8 Hyes.out).mono ?_
  rintro e w3 ⟨rfl, rfl⟩
  go_wp2
  go_ret
  exact ⟨rfl, Only.new HB2.out, ps, rfl, HI2.out⟩
 ·have Hyes := hide hyes
  clear hyes
  go_enter Tryz.func17, Tryz.ntmps17
  go_wp2_with fail
  rw [← hW]
  refine (tPlan_yes p.kb p.qb p.mb p.ov p.ents p.ks p.draws p.s _ _ _ _ HO.out.ker HO.out.kbs HOK.out.fit.ok he1 he8 hk8 Hyes.out).mono ?_
  rintro e w2 ⟨ho2, hres⟩
  have hnk : ∀ x, w.heap.size ≤ x → ¬ KSet p.kb p.qb p.mb p.ov x := fun x hx hc => by have := Hlt.out x (.inl (.inl hc)); omega
  have g1 := ho2.at c1 (hnk _ (by omega))
  have g2 := ho2.at c2 (hnk _ (by omega))
  have g3 := ho2.at c3 (hnk _ (by omega))
  have g4 := ho2.at c4 (hnk _ (by omega))
  have hz2 := ho2.size
  have Href : Hid (RefK p.rR w2 p.rb p.ents p.ks p.draws p.s.taken p.s.clock p.s.next (regL p.ents p.s) p.s.q) := HO.out.ref.only ho2 (fun x hx hc => (HO.out.sepr x hx).2.2 hc) HO.out.sep
  have HRw : Hid (∀ x, p.rR x → x < w2.heap.size ∧ x ≠ p.rb) := fun x hx => ⟨by have := (HO.out.sepr x hx).1; omega, (HO.out.sepr x hx).2.1⟩
  have Hres := hide hres
  have Ho2 := hide ho2
  have Hnk := hide hnk
  clear hres ho2 hnk c1 c2 c3 c4
  rcases Hres.out with ⟨hn, rfl, hP2⟩ | ⟨hn, rfl, ov', hmv, hP2⟩
  ·have Hd : Hid ((decide (p.s.q.length < 16) && decide (p.s.next < 1000000000)) = false) := by
    show _ = _
    rw [Bool.and_eq_false_iff, decide_eq_false_iff_not, decide_eq_false_iff_not]
    by_cases h1 : p.s.q.length < 16
    ·exact .inr (fun h2 => hn ⟨h1, h2⟩)
    ·exact .inl h1
   have HP2 := hide hP2
   clear hP2 hn
   go_wp2_with fail
   refine (rPlan_ok p.rb p.ents p.ks p.draws p.s.taken p.s.clock p.s.next _ p.s.q _ _ _ _ Href.out he1 he8 hk8 HRw.out (by omega) Hyes.out).mono ?_
   rintro e w3 hr3
   rcases hr3.symm with ⟨hf, _⟩ | ⟨_, rfl, rfl⟩
   ·rw [Hd.out] at hf; cases hf
   have ho23 : Only p.has W w3 := Ho2.out.mono (fun x _ e => .inl e)
   have hup : Inv base w3 wb lv (ps.set i p) bk := by
    refine HI.out.update hi ho23 rfl rfl ⟨HP2.out, Href.out, HOK.out.fit, HOK.out.regz, HOK.out.kind, HOK.out.draw, Nat.le_trans HO.out.kbs hz2, Nat.lt_of_lt_of_le HO.out.rlt hz2, fun x hx => ⟨(HRw.out x hx).1, (HO.out.sepr x hx).2⟩, HO.out.sepk, HO.out.sep⟩ (fun x hx => .inl hx)
   have HU := hide hup
   have HBB : Hid (Only (MutS ps) w _) := (Only.new HB.out).trans (ho23.mono (fun x _ hx => ⟨p, hpm, hx⟩))
   clear hup ho23
   go_wp2
   go_ret
   exact ⟨by simp, HBB.out, _, by simp, HU.out⟩
  ·have Hd : Hid ((decide (p.s.q.length < 16) && decide (p.s.next < 1000000000)) = true) := by show _ = _; simp; omega
   have HP2 := hide hP2
   have Hmv := hide hmv
   have Hn := hide hn
   clear hP2 hmv hn
   go_wp2_with fail
   refine (rPlan_ok p.rb p.ents p.ks p.draws p.s.taken p.s.clock p.s.next _ p.s.q _ _ _ _ Href.out he1 he8 hk8 HRw.out (by omega) Hyes.out).mono ?_
   rintro e w3 hr3
   rcases hr3 with ⟨hf, _⟩ | ⟨_, rfl, ho3, hP3⟩
   ·rw [Hd.out] at hf; cases hf
   have ho23 : Only p.has W w3 := (Ho2.out.mono (S' := p.has) (fun x _ e => .inl e)).trans (ho3.mono (fun x _ e => .inr e))
   have hz3 := ho3.size
   have hset : ∀ x, KSet p.kb p.qb p.mb ov' x → KSet p.kb p.qb p.mb p.ov x ∨ W.heap.size ≤ x := by
    rintro x (hx | hx | hx | hx)
    ·exact .inl (.inl hx)
    ·exact .inl (.inr (.inl hx))
    ·exact .inl (.inr (.inr (.inl hx)))
    ·rcases Hmv.out with e | ⟨g, e, hg⟩
     ·exact .inl (.inr (.inr (.inr (hx.trans e))))
     ·rw [e] at hx; simp at hx; exact .inr (by omega)
   have hklt := HP2.out.lt
   have hsep' : ¬ KSet p.kb p.qb p.mb ov' p.rb := fun hc => by
    rcases hset _ hc with hc | hc
    ·exact HO.out.sep hc
    ·have := HO.out.rlt; omega
   have hup : Inv base w3 wb lv (ps.set i { p with ov := ov', s := planS p.s b c d, rR := fun x => p.rR x ∨ (w2.heap.size ≤ x ∧ x < w3.heap.size) }) bk := by
    refine HI.out.update hi ho23 rfl rfl ⟨?_, ?_, plan_fit HOK.out.fit Hyes.out Hn.out, HOK.out.regz, HOK.out.kind, HOK.out.draw, by have := HO.out.kbs; show p.kbs ≤ _; omega, by have := HO.out.rlt; show p.rb < _; omega, ?_, HO.out.sepk, hsep'⟩ ?_
    ·exact HP2.out.only ho3 (fun x hx hc => hsep' (hc ▸ hx)) (fun x hx hc => HO.out.sepk x hx hc)
    ·exact hP3
    ·rintro x (hx | hx)
     ·refine ⟨by have := (HRw.out x hx).1; omega, (HRw.out x hx).2, fun hc => ?_⟩
      rcases hset x hc with hc | hc
      ·exact (HO.out.sepr x hx).2.2 hc
      ·have := (HO.out.sepr x hx).1; omega
     ·refine ⟨hx.2, by have := HO.out.rlt; show x ≠ p.rb; omega, fun hc => by have := hklt x hc; omega⟩
    ·rintro x ((hx | hx) | hx | hx | hx)
     ·rcases hset x hx with hx | hx
      ·exact .inl (.inl (.inl hx))
      ·exact .inr hx
     ·exact .inl (.inl (.inr hx))
     ·exact .inl (.inr (.inl hx))
     ·exact .inl (.inr (.inr hx))
     ·exact .inr (by omega)
   have HU := hide hup
   have HBB : Hid (Only (MutS ps) w _) := (Only.new HB.out).trans (ho23.mono (fun x _ hx => ⟨p, hpm, hx⟩))
   clear hup ho23 hset hklt hsep' hP3 ho3
   go_wp2
   go_ret
   exact ⟨by simp, HBB.out, _, by simp, HU.out⟩
theorem asked_now {base : Nat} (wb : Nat) (lv : Value) (ps : List Pair) (bk : BookD) (i : Nat) (p : Pair) (a b c d ents : Int) (kv l rv qv sv : Value) (w : World) (h : Inv base w wb lv ps bk) (hi : ps[i]? = some p) :
  Calls Tryz.prog 17 #[.pointer (some ⟨wb, 0, none⟩), .agg #[.pointer (some ⟨p.kb, 0, none⟩), .pointer (some ⟨p.rb, 0, none⟩)], .agg #[.int .i64 5, .int .i64 a, .int .i64 b, .int .i64 c, .int .i64 d, .int .i64 ents, kv, l, rv, qv, sv]] w
   fun e w' => e = .returned (.bool true) ∧ Only (MutS ps) w w' ∧ ∃ ps', ps'.length = ps.length ∧ Inv base w' wb lv ps' bk := by
 have hpm : p ∈ ps := List.mem_of_getElem? hi
 have hOK := h.pairs p hpm
 have htk := hOK.fit.ok.taken
 have hdl := draws_facts hOK.draw
 have hsz := h.lo
 obtain ⟨W, hW⟩ : ∃ W, W = (w.alloc (.cells #[.pointer (some ⟨p.kb, 0, none⟩), .pointer (some ⟨p.rb, 0, none⟩)] 52)).alloc (.cells #[.int .i64 5, .int .i64 a, .int .i64 b, .int .i64 c, .int .i64 d, .int .i64 ents, kv, l, rv, qv, sv] 41) := ⟨_, rfl⟩
 have hb : Below w.heap.size w W := by rw [hW]; exact ((Below.refl _ _).alloc (Nat.le_refl _) _).alloc (by simp) _
 have hWs : W.heap.size = w.heap.size + 1 + 1 := by rw [hW]; simp
 have c1 : W.cell? ⟨w.heap.size, 1, none⟩ = some (.pointer (some ⟨p.rb, 0, none⟩)) := by rw [hW]; simp [go_sem]
 have HI := hide (h.below hb)
 have HB := hide hb
 clear hOK hb
 go_enter Tryz.func17, Tryz.ntmps17
 go_wp2_with fail
 rw [← hW]
 refine (tNow_any p.kb p.qb p.mb p.ov p.ents p.ks p.draws p.s _ (HI.out.pairs p hpm).ker htk).mono ?_
 rintro e w2 ⟨rfl, hb2⟩
 have g1 := below_at hb2 c1 (by omega)
 have hz2 := hb2.size
 have HI2 := hide (HI.out.below hb2)
 have HB2 := hide (HB.out.trans (hb2.mono (by omega)))
 clear c1 hb2
 go_wp2_with fail
 refine (rNow_any p.rb p.ents p.ks p.draws p.s.taken p.s.clock p.s.next _ p.s.q _ (HI2.out.pairs p hpm).ref (by omega) (by omega)).mono ?_
 rintro e w3 ⟨rfl, hb3⟩
 have HI3 := hide (HI2.out.below hb3)
 have HB3 := hide (HB2.out.trans (hb3.mono (by omega)))
 clear hb3
 go_wp2
 go_ret
 exact ⟨by simp, Only.new HB3.out, ps, rfl, HI3.out⟩
theorem asked_reg {base : Nat} (wb : Nat) (lv : Value) (ps : List Pair) (bk : BookD) (i : Nat) (p : Pair) (a b c d ents : Int) (kv l rv qv sv : Value) (w : World) (h : Inv base w wb lv ps bk) (hi : ps[i]? = some p) :
  Calls Tryz.prog 17 #[.pointer (some ⟨wb, 0, none⟩), .agg #[.pointer (some ⟨p.kb, 0, none⟩), .pointer (some ⟨p.rb, 0, none⟩)], .agg #[.int .i64 6, .int .i64 a, .int .i64 b, .int .i64 c, .int .i64 d, .int .i64 ents, kv, l, rv, qv, sv]] w
   fun e w' => e = .returned (.bool true) ∧ Only (MutS ps) w w' ∧ ∃ ps', ps'.length = ps.length ∧ Inv base w' wb lv ps' bk := by
 have hpm : p ∈ ps := List.mem_of_getElem? hi
 have hOK := h.pairs p hpm
 obtain ⟨⟨he1, he8⟩, hk1, hk8⟩ := kind_facts hOK.kind
 have hsz := h.lo
 obtain ⟨W, hW⟩ : ∃ W, W = (w.alloc (.cells #[.pointer (some ⟨p.kb, 0, none⟩), .pointer (some ⟨p.rb, 0, none⟩)] 52)).alloc (.cells #[.int .i64 6, .int .i64 a, .int .i64 b, .int .i64 c, .int .i64 d, .int .i64 ents, kv, l, rv, qv, sv] 41) := ⟨_, rfl⟩
 have hb : Below w.heap.size w W := by rw [hW]; exact ((Below.refl _ _).alloc (Nat.le_refl _) _).alloc (by simp) _
 have hWs : W.heap.size = w.heap.size + 1 + 1 := by rw [hW]; simp
 have c1 : W.cell? ⟨w.heap.size, 1, none⟩ = some (.pointer (some ⟨p.rb, 0, none⟩)) := by rw [hW]; simp [go_sem]
 have c2 : W.cell? ⟨w.heap.size + 1, 2, none⟩ = some (.int .i64 b) := by rw [hW]; simp [go_sem]
 have c3 : W.cell? ⟨w.heap.size + 1, 3, none⟩ = some (.int .i64 c) := by rw [hW]; simp [go_sem]
 have HI := hide (h.below hb)
 have Hrl : Hid (((regL p.ents p.s).length : Int) = p.ents * 4) := by (show _ = _; rw [regL_length]; omega)
 have HB := hide hb
 clear hOK hb
 go_enter Tryz.func17, Tryz.ntmps17
 go_wp2_with fail
 rw [← hW]
 refine (tReg_any p.kb p.qb p.mb p.ov p.ents p.ks p.draws p.s _ _ _ (HI.out.pairs p hpm).ker he1 he8).mono ?_
 rintro e w2 ⟨rfl, hb2⟩
 have g1 := below_at hb2 c1 (by omega)
 have g2 := below_at hb2 c2 (by omega)
 have g3 := below_at hb2 c3 (by omega)
 have hz2 := hb2.size
 have HI2 := hide (HI.out.below hb2)
 have HB2 := hide (HB.out.trans (hb2.mono (by omega)))
 clear c1 c2 c3 hb2
 go_wp2_with fail
 refine (rReg_any p.rb p.ents p.ks p.draws p.s.taken p.s.clock p.s.next _ p.s.q _ _ _ (HI2.out.pairs p hpm).ref he1 he8 Hrl.out).mono ?_
 rintro e w3 ⟨rfl, hr3⟩
 have hE : e = .returned (.tuple #[.int .i64 (regF p.ents p.s b c).1, .int .i64 (regF p.ents p.s b c).2]) := by
  rcases hr3 with ⟨h1, rfl⟩ | ⟨h1, x, hx, rfl⟩
  ·simp [regF, h1]
  ·have h1' := h1
   simp only [inB, Bool.and_eq_true, decide_eq_true_eq] at h1'
   rw [regL_get _ _ _ (by omega)] at hx
   have hx' := Option.some.inj hx
   rw [show (b * 4 + c).toNat = b.toNat * 4 + c.toNat by omega] at hx'
   simp [regF, h1, hx']
 subst hE
 generalize (regF p.ents p.s b c).1 = r1
 generalize (regF p.ents p.s b c).2 = r2
 clear hr3
 go_wp2
 go_ret
 exact ⟨by simp, Only.new HB2.out, ps, rfl, HI2.out⟩
theorem asked_any {base : Nat} (wb : Nat) (lv : Value) (ps : List Pair) (bk : BookD) (i : Nat) (p : Pair) (k a b c d ents : Int) (kv l rv qv sv : Value) (w : World) (h : Inv base w wb lv ps bk) (hi : ps[i]? = some p) (hk : k = 3 ∨ k = 5 ∨ k = 6) :
  Calls Tryz.prog 17 #[.pointer (some ⟨wb, 0, none⟩), .agg #[.pointer (some ⟨p.kb, 0, none⟩), .pointer (some ⟨p.rb, 0, none⟩)], .agg #[.int .i64 k, .int .i64 a, .int .i64 b, .int .i64 c, .int .i64 d, .int .i64 ents, kv, l, rv, qv, sv]] w
   fun e w' => e = .returned (.bool true) ∧ Only (MutS ps) w w' ∧ ∃ ps', ps'.length = ps.length ∧ Inv base w' wb lv ps' bk := by
 rcases hk with rfl | rfl | rfl
 ·exact asked_plan wb lv ps bk i p a b c d ents kv l rv qv sv w h hi
 ·exact asked_now wb lv ps bk i p a b c d ents kv l rv qv sv w h hi
 ·exact asked_reg wb lv ps bk i p a b c d ents kv l rv qv sv w h hi
attribute [local go_sem] eqlNilI eqlNilC eqlNilK
def lentL (l : List Ins) : List Ins := l ++ List.replicate 8 ⟨77, 0, 0, 0⟩
theorem lentL_room (l : List Ins) (k : Nat) (h1 : l.length ≤ k) (h2 : k < l.length + 8) : (lentL l)[k]? = some ⟨77, 0, 0, 0⟩ := by
 rw [lentL, List.getElem?_append_right h1, List.getElem?_replicate, if_pos (by omega)]
theorem lentL_elem (l : List Ins) (k : Nat) (h : k < l.length) : (lentL l)[k]? = some l[k] := by
 rw [lentL, List.getElem?_append_left h]; simp [h]
theorem lentL_length (l : List Ins) : (lentL l).length = l.length + 8 := by simp [lentL]
theorem lentCode_nil (w : World) : Calls Tryz.prog 55 #[.slice none 0 0] w fun e w' => e = .returned (.slice none 0 0) ∧ w' = w := by
 go_enter Tryz.func55, Tryz.ntmps55
 go_wp2
 go_ret
 exact ⟨rfl, rfl⟩
theorem lentCode_at (ad : Addr) (cap : Nat) (l : List Ins) (w : World) (hl : l.length ≤ 4398046511104) (hc : ∀ j v, (flat l)[j]? = some v → w.cell? (ad.add j) = some v) :
  Calls Tryz.prog 55 #[.slice (some ad) l.length cap] w fun e w' => ∃ g, w.heap.size ≤ g ∧ g < w'.heap.size ∧ e = .returned (.slice (some ⟨g, 0, none⟩) l.length (l.length + 8)) ∧
   Below w.heap.size w w' ∧ CodeAt w' g 0 (lentL l) ∧ Room w' g ((l.length + 8) * 4) := by
 go_enter Tryz.func55, Tryz.ntmps55
 go_wp2_with (first
  | (at_make; refine wpList_make_alloc _ rfl _ _ 60 rfl 59 (.agg #[.int .i64 0, .int .i64 0, .int .i64 0, .int .i64 0]) 4 32 Tryz.underlying60 Tryz.info59 _ _ _ _ (l.length + 8) rfl rfl (by simp) (by simp) (by omega) (by omega) ?_)
  | (refine wpList_copy_cells rfl (.tmp 13) (.tmp 14) 60 60 rfl 59 Tryz.underlying60 4 Tryz.size59 w.heap.size _ _ _ _ _ rfl rfl (by simp) _ 59 (heap_new _ _) (flat l) (flat_length l) ?_ ?_ ?_ ?_))
 case refine_1 => intro j v hv; exact (((Below.refl _ _).alloc (Nat.le_refl _) _).cell (lt_of_cellA (hc j v hv))).trans (hc j v hv)
 case refine_2 => simp [flat_length, size_madeCells]; omega
 case refine_3 => intro v hv; simp [flat, cells4] at hv; obtain ⟨x, _, rfl | rfl | rfl | rfl⟩ := hv <;> rfl
 intro w1 hon hrow hroom hsz
 rw [size_madeCells] at hroom
 have hb1 : Below w.heap.size w w1 := ((Below.refl _ _).alloc (Nat.le_refl _) _).trans (hon.below (by simp) (fun k hk => by omega))
 have Hlen := hide (lentL_length l)
 clear hon
 have hz : w.heap.size < w1.heap.size := by rw [hsz]; simp
 clear hsz
 have hrow := hrow.code
 go_wp2
 go_loopw [5] (fun i wr => ∃ k : Nat, l.length ≤ k ∧ k ≤ l.length + 8 ∧ i = .int .i64 k ∧ Below w.heap.size w wr ∧ CodeAt wr w.heap.size 0 ((lentL l).take k) ∧ Room wr w.heap.size ((l.length + 8) * 4) ∧ w.heap.size < wr.heap.size) (fun i _ => l.length + 8 - (intOf i).toNat)
 case atStart => exact ⟨l.length, Nat.le_refl _, by omega, rfl, hb1, by rw [lentL, List.take_left' rfl]; exact hrow, hroom, hz⟩
 case round =>
  obtain ⟨k, hk1, hk2, rfl, hbel, hrw, hrm, hzr⟩ := hrel
  clear hrow hroom hb1 hz
  by_cases hlt : k < l.length + 8
  ·obtain ⟨hs0, hf0⟩ := hrm (k * 4) (by omega)
   obtain ⟨hs1, hf1⟩ := hrm (k * 4 + 1) (by omega)
   obtain ⟨hs2, hf2⟩ := hrm (k * 4 + 2) (by omega)
   obtain ⟨hs3, hf3⟩ := hrm (k * 4 + 3) (by omega)
   obtain ⟨u0, hu0⟩ := Option.isSome_iff_exists.1 hs0
   obtain ⟨u1, hu1⟩ := Option.isSome_iff_exists.1 hs1
   obtain ⟨u2, hu2⟩ := Option.isSome_iff_exists.1 hs2
   obtain ⟨u3, hu3⟩ := Option.isSome_iff_exists.1 hs3
   go_wp2
   go_roundw
   case rel =>
    have e1 := Below.set4 hbel (Nat.le_refl _) (k * 4) ⟨77, 0, 0, 0⟩
    have e2 := hrw.snoc (lentL_room l k hk1 hlt) hrm (by omega)
    have e3 := hrm.set4 w.heap.size (k * 4) ⟨77, 0, 0, 0⟩
    have e4 := set4_size wr w.heap.size (k * 4) ⟨77, 0, 0, 0⟩
    simp only [set4] at e1 e2 e3 e4
    exact ⟨k + 1, by omega, by omega, by go_num, e1, e2, e3, by rw [e4]; exact hzr⟩
   case measure => simp [intOf]; omega
  ·have hk : k = l.length + 8 := by omega
   rw [List.take_of_length_le (by rw [Hlen.out]; omega)] at hrw
   go_wp2
   go_ret
   exact ⟨w.heap.size, Nat.le_refl _, hzr, by simp, hbel, hrw, hrm⟩
theorem lentCode_some (b off cap : Nat) (l : List Ins) (w : World) (hl : l.length ≤ 4398046511104) (hc : CodeAt w b off l) :
  Calls Tryz.prog 55 #[.slice (some ⟨b, off, none⟩) l.length cap] w fun e w' => ∃ g, w.heap.size ≤ g ∧ g < w'.heap.size ∧ e = .returned (.slice (some ⟨g, 0, none⟩) l.length (l.length + 8)) ∧
   Below w.heap.size w w' ∧ CodeAt w' g 0 (lentL l) ∧ Room w' g ((l.length + 8) * 4) :=
 lentCode_at ⟨b, off, none⟩ cap l w hl (fun j v hv => by rw [Addr.add_lit]; exact hc.row j v hv)
theorem lentCode_empty (ad : Addr) (cap : Nat) (w : World) :
  Calls Tryz.prog 55 #[.slice (some ad) 0 cap] w fun e w' => ∃ g, w.heap.size ≤ g ∧ g < w'.heap.size ∧ e = .returned (.slice (some ⟨g, 0, none⟩) 0 (0 + 8)) ∧
   Below w.heap.size w w' ∧ CodeAt w' g 0 (lentL []) ∧ Room w' g ((0 + 8) * 4) :=
 lentCode_at ad cap [] w (by simp) (fun j v hv => by simp [flat] at hv)
def one4 : Ins := ⟨1, 1, 1, 0⟩
theorem wholeCode_nil (v : Value) (w : World) : Calls Tryz.prog 59 #[v, .slice none 0 0] w fun e w' => e = .returned (.bool true) ∧ w' = w := by
 go_enter Tryz.func59, Tryz.ntmps59
 go_wp2
 go_ret
 exact ⟨rfl, rfl⟩
theorem CodeFrom.below {B : Nat} {w w' : World} {b off k : Nat} {l : List Ins} (h : CodeFrom w b off k l) (hb : Below B w w') (hB : b < B) : CodeFrom w' b off k l := by
 intro i x hi hx
 obtain ⟨h1, h2, h3, h4⟩ := h i x hi hx
 exact ⟨below_at hb h1 hB, below_at hb h2 hB, below_at hb h3 hB, below_at hb h4 hB⟩
theorem whole_step {w wr wq : World} {g k n : Nat} {L : List Ins} (hon : Only (· = g) w wr) (hrw : CodeFrom wr g 0 k L) (hrm : Room wr g (n * 4)) (hones : CodeAt wr g 0 ((List.replicate n one4).take k)) (hk : k < n)
  (hgr : g < wr.heap.size) (hb : Below wr.heap.size wr wq) :
  Only (· = g) w (set4 wq g (k * 4) one4) ∧ CodeFrom (set4 wq g (k * 4) one4) g 0 (k + 1) L ∧ Room (set4 wq g (k * 4) one4) g (n * 4) ∧ CodeAt (set4 wq g (k * 4) one4) g 0 ((List.replicate n one4).take (k + 1)) :=
 ⟨(hon.trans (Only.new hb)).set4 rfl _ _, (hrw.below hb hgr).next _, (hrm.below hb hgr).set4 _ _ _, (hones.below hb hgr).snoc (by simp [List.getElem?_replicate, hk]) (hrm.below hb hgr) (by omega)⟩
theorem wholeCode_gen (ad : Addr) (b off cap g : Nat) (l : List Ins) (w : World) (had : 0 < l.length → ad = ⟨b, off, none⟩) (hl : l.length ≤ 4398046511104) (hc : CodeAt w b off l) (hbg : b ≠ g) (hr : CodeAt w g 0 (lentL l)) (hm : Room w g ((l.length + 8) * 4)) (hgw : g < w.heap.size) :
  Calls Tryz.prog 59 #[.slice (some ⟨g, 0, none⟩) l.length (l.length + 8), .slice (some ad) l.length cap] w fun e w' => e = .returned (.bool true) ∧ Only (· = g) w w' ∧ CodeAt w' g 0 (List.replicate (l.length + 8) one4) := by
 go_enter Tryz.func59, Tryz.ntmps59
 go_wp2
 go_loopw [7, 8, 9] (fun ok i _ wr => ∃ k : Nat, k ≤ l.length + 8 ∧ i = .int .i64 k ∧ ok = .bool true ∧ Only (· = g) w wr ∧ CodeFrom wr g 0 k (lentL l) ∧ Room wr g ((l.length + 8) * 4) ∧ CodeAt wr g 0 ((List.replicate (l.length + 8) one4).take k)) (fun _ i _ _ => l.length + 8 - (intOf i).toNat)
 case atStart => exact ⟨0, by omega, rfl, rfl, Only.refl _ _, fun i x _ hx => hr i x hx, hm, fun i x hx => by simp at hx⟩
 case round =>
  obtain ⟨k, hk, rfl, rfl, hon, hrw, hrm, hones⟩ := hrel
  have hgr : g < wr.heap.size := Nat.lt_of_lt_of_le hgw hon.size
  by_cases hlt : k < l.length + 8
  ·obtain ⟨hs0, hf0⟩ := hrm (k * 4) (by omega)
   obtain ⟨hs1, hf1⟩ := hrm (k * 4 + 1) (by omega)
   obtain ⟨hs2, hf2⟩ := hrm (k * 4 + 2) (by omega)
   obtain ⟨hs3, hf3⟩ := hrm (k * 4 + 3) (by omega)
   clear hs0 hs1 hs2 hs3
   by_cases hl2 : k < l.length
   ·obtain rfl := had (by omega)
    obtain ⟨hu0, hu1, hu2, hu3⟩ := hrw k _ (Nat.le_refl _) (lentL_elem l k hl2)
    simp only [Nat.zero_add] at hu0 hu1 hu2 hu3
    obtain ⟨hx0, hx1, hx2, hx3⟩ := hc k l[k] (by simp)
    have hx0 := hon.at hx0 hbg
    have hx1 := hon.at hx1 hbg
    have hx2 := hon.at hx2 hbg
    have hx3 := hon.at hx3 hbg
    have hbr := lt_of_cell hx0
    go_wp2
    go_quiet (fail)
    go_wp2
    go_roundw
    case rel =>
     obtain ⟨e1, e2, e3, e4⟩ := whole_step hon hrw hrm hones hlt hgr (below_drewN ((Below.refl wr.heap.size wr).alloc (Nat.le_refl _) (.cells #[.int .i64 l[k].op, .int .i64 l[k].a, .int .i64 l[k].b, .int .i64 l[k].c] 59)) nq)
     simp only [set4, one4] at e1 e2 e3 e4
     exact ⟨k + 1, by omega, by go_num, rfl, e1, e2, e3, e4⟩
    case measure => simp [intOf]; omega
   ·obtain ⟨hu0, hu1, hu2, hu3⟩ := hrw k _ (Nat.le_refl _) (lentL_room l k (by omega) hlt)
    simp only [Nat.zero_add] at hu0 hu1 hu2 hu3
    go_wp2
    go_quiet (fail)
    go_wp2
    go_roundw
    case rel =>
     obtain ⟨e1, e2, e3, e4⟩ := whole_step hon hrw hrm hones hlt hgr (below_drewN ((Below.refl wr.heap.size wr).alloc (Nat.le_refl _) (.cells #[.int .i64 77, .int .i64 0, .int .i64 0, .int .i64 0] 59)) nq)
     simp only [set4, one4] at e1 e2 e3 e4
     exact ⟨k + 1, by omega, by go_num, rfl, e1, e2, e3, e4⟩
    case measure => simp [intOf]; omega
  ·go_wp2
   go_ret
   refine ⟨rfl, hon, ?_⟩
   have hk' : k = l.length + 8 := by omega
   rw [List.take_of_length_le (by simp; omega)] at hones
   exact hones
theorem wholeCode_some (b off cap g : Nat) (l : List Ins) (w : World) (hl : l.length ≤ 4398046511104) (hc : CodeAt w b off l) (hbg : b ≠ g) (hr : CodeAt w g 0 (lentL l)) (hm : Room w g ((l.length + 8) * 4)) (hgw : g < w.heap.size) :
  Calls Tryz.prog 59 #[.slice (some ⟨g, 0, none⟩) l.length (l.length + 8), .slice (some ⟨b, off, none⟩) l.length cap] w fun e w' => e = .returned (.bool true) ∧ Only (· = g) w w' ∧ CodeAt w' g 0 (List.replicate (l.length + 8) one4) :=
 wholeCode_gen ⟨b, off, none⟩ b off cap g l w (fun _ => rfl) hl hc hbg hr hm hgw
theorem wholeCode_empty (ad : Addr) (cap g : Nat) (w : World) (hr : CodeAt w g 0 (lentL [])) (hm : Room w g ((([] : List Ins).length + 8) * 4)) (hgw : g < w.heap.size) :
  Calls Tryz.prog 59 #[.slice (some ⟨g, 0, none⟩) ([] : List Ins).length (([] : List Ins).length + 8), .slice (some ad) 0 cap] w fun e w' => e = .returned (.bool true) ∧ Only (· = g) w w' ∧ CodeAt w' g 0 (List.replicate (([] : List Ins).length + 8) one4) :=
 wholeCode_gen ad (g + 1) 0 cap g [] w (fun h => by simp at h) (by simp) (fun i x hx => by simp at hx) (by omega) hr hm hgw
end Go.Proofs.YtndlmgocldckfaaGreat
