import Derived.Test.YtndlmgocldckfaaGreatG22
import Derived.Test.YtndlmgocldckfaaGreatG09
import Derived.Test.YtndlmgocldckfaaGreatG11
import Derived.Test.YtndlmgocldckfaaGreatG06
import Derived.Test.YtndlmgocldckfaaGreatG21
import Derived.Deep.RegionHeld3
import Derived.Deep.CutRange
import Derived.Deep.DeepCutAuto
namespace Go.Proofs.YtndlmgocldckfaaGreat
open Go.RowKit
set_option linter.unusedVariables false
set_option linter.unusedSimpArgs false
set_option maxRecDepth 100000
set_option maxHeartbeats 4000000
theorem Tryz.info41 : (Tryz.prog.info? 41).map (fun i => (i.zero, i.size, i.bytes)) = some (some (.agg #[.int .i64 0, .int .i64 0, .int .i64 0, .int .i64 0, .int .i64 0, .int .i64 0, .slice none 0 0, .slice none 0 0, .slice none 0 0, .slice none 0 0, .string ⟨#[]⟩]), 11, 160) := by kernel_rfl
theorem opsRow_length (os : List OpD) : (opsRow os).length = os.length * 11 := by
 induction os with
 | nil => rfl
 | cons x l ih => simp [opsRow, opCells] at ih ⊢; omega
theorem opsRow_get : ∀ (os : List OpD) (i r : Nat), r < 11 → (opsRow os)[i * 11 + r]? = os[i]?.bind fun x => (opCells x)[r]?
 | [], i, r, _ => by simp [opsRow]
 | x :: l, 0, r, h => by
  rw [Nat.zero_mul, Nat.zero_add, opsRow, List.flatMap_cons, List.getElem?_append_left (by simp [opCells]; omega)]
  simp
 | x :: l, i + 1, r, h => by
  have ih := opsRow_get l i r h
  have e : (i + 1) * 11 + r = (opCells x).length + (i * 11 + r) := by simp [opCells]; omega
  rw [e, opsRow, List.flatMap_cons, List.getElem?_append_right (by omega)]
  simpa [opsRow] using ih
theorem op_cells {w : World} {g : Nat} {os : List OpD} {i : Nat} {o : OpD} (h : RowAt w g 0 (opsRow os)) (ho : os[i]? = some o) :
  w.cell? ⟨g, i * 11, none⟩ = some (.int .i64 o.kind) ∧ w.cell? ⟨g, i * 11 + 1, none⟩ = some (.int .i64 o.a) ∧ w.cell? ⟨g, i * 11 + 2, none⟩ = some (.int .i64 o.b) ∧ w.cell? ⟨g, i * 11 + 3, none⟩ = some (.int .i64 o.c) ∧ w.cell? ⟨g, i * 11 + 4, none⟩ = some (.int .i64 o.d) ∧ w.cell? ⟨g, i * 11 + 5, none⟩ = some (.int .i64 o.ents) ∧
  w.cell? ⟨g, i * 11 + 6, none⟩ = some o.kv ∧ w.cell? ⟨g, i * 11 + 7, none⟩ = some o.l ∧ w.cell? ⟨g, i * 11 + 8, none⟩ = some o.rv ∧ w.cell? ⟨g, i * 11 + 9, none⟩ = some o.qv ∧ w.cell? ⟨g, i * 11 + 10, none⟩ = some o.sv := by
 have q := fun r (hr : r < 11) (v : Value) (hv : (opCells o)[r]? = some v) => h (i * 11 + r) v (by rw [opsRow_get os i r hr, ho]; exact hv)
 simp only [Nat.zero_add] at q
 exact ⟨q 0 (by omega) _ rfl, q 1 (by omega) _ rfl, q 2 (by omega) _ rfl, q 3 (by omega) _ rfl, q 4 (by omega) _ rfl, q 5 (by omega) _ rfl, q 6 (by omega) _ rfl, q 7 (by omega) _ rfl, q 8 (by omega) _ rfl, q 9 (by omega) _ rfl, q 10 (by omega) _ rfl⟩
theorem OpOK.mono {B B' : Nat} {w : World} {o : OpD} (h : OpOK B w o) (hB : B ≤ B') : OpOK B' w o :=
 ⟨h.kinds.mono hB, h.draws.mono hB, h.alo, h.ahi, h.rform, h.qform, h.sform⟩
structure PlayX (K : Nat → World → OpD → Prop) (pl : List Int) (lim : Nat) (Good : Nat → BookD → Prop) : Prop where
 start : ∃ bk0, Good 0 bk0 ∧ ∀ (w : World) (T : TypeId), Inv w.heap.size (w.alloc (.cells #[.slice none 0 0, .slice none 0 0, .slice none 0 0, .slice none 0 0] T)) w.heap.size (.slice none 0 0) [] bk0
 len : pl.length ≤ 1000
 step : ∀ (j base wb : Nat) (lv : Value) (ps : List Pair) (bk : BookD) (o : OpD) (w : World), j < lim → Inv base w wb lv ps bk → Good j bk → OpOK base w o → K base w o → amongF pl o.kind = true → (ps.length + 1) * 16 ≤ 140737488355328 → 0 < base →
  Calls Tryz.prog 11 #[.pointer (some ⟨wb, 0, none⟩), .agg #[.int .i64 o.kind, .int .i64 o.a, .int .i64 o.b, .int .i64 o.c, .int .i64 o.d, .int .i64 o.ents, o.kv, o.l, o.rv, o.qv, o.sv]] w
   fun e w' => e = .returned (.bool true) ∧ Below base w w' ∧ ∃ lv' ps' bk', ps'.length ≤ ps.length + 1 ∧ Inv base w' wb lv' ps' bk' ∧ Good (j + 1) bk'
 looks : ∀ (j base wb : Nat) (lv : Value) (ps : List Pair) (bk : BookD) (w : World), j ≤ lim → Inv base w wb lv ps bk → Good j bk → Calls Tryz.prog 12 #[.pointer (some ⟨wb, 1, none⟩)] w fun e w' => e = .returned (.bool true) ∧ Below w.heap.size w w'
 apart : ∀ (j base wb : Nat) (lv : Value) (ps : List Pair) (bk : BookD) (w : World), j ≤ lim → Inv base w wb lv ps bk → Good j bk → Calls Tryz.prog 13 #[.pointer (some ⟨wb, 1, none⟩)] w fun e w' => e = .returned (.bool true) ∧ Below base w w'
 kbelow : ∀ (B : Nat) (w w' : World) (o : OpD), K B w o → Below B w w' → K B w' o
 kmono : ∀ (B B' : Nat) (w : World) (o : OpD), K B w o → B ≤ B' → K B' w o
 kfirst : ∀ (B : Nat) (w : World) (k1 k2 dv r : Value), FirstR B w r → ∀ o ∈ firstOps k1 k2 dv r, K B w o
theorem plays_all (K : Nat → World → OpD → Prop) (pl : List Int) (lim : Nat) (Good : Nat → BookD → Prop) (hP : PlayX K pl lim Good) (sv : Value) (os : List OpD) (pb : Nat) (w : World) (hsrc : SrcAt w sv os.length (opsRow os)) (hos : ∀ o ∈ os, OpOK w.heap.size w o) (hks : ∀ o ∈ os, K w.heap.size w o) (hone : ∀ u ∈ opsRow os, u.oneCell' = true) (hn : (os.length + 11) * 160 ≤ 140737488355328) (hlim : os.length + 11 ≤ lim)
  (hpl : RowAt w pb 0 (ints pl)) (hpb : pb < w.heap.size) :
  Calls Tryz.prog 8 #[sv, .slice (some ⟨pb, 0, none⟩) pl.length pl.length] w fun e w' => e = .returned (.bool true) ∧ Below w.heap.size w w' := by
 have HP := hide hP
 clear hP
 have Hos := hide hos
 have Hks := hide hks
 have Hone := hide hone
 clear hos hone hks
 go_enter Tryz.func8, Tryz.ntmps8
 go_wp2_with fail
 refine (first_any _).mono ?_
 rintro e w1 ⟨g, os1, rfl, hb1, hg1, hl1, ⟨cur, hcur, hcl⟩, hg2, hok1, hone1, fk1, fk2, fdv, fr, hos1, hfr⟩
 have Hk1 : Hid (∀ o ∈ os1, K g w1 o) := by
  rw [hos1]
  exact HP.out.kfirst g w1 fk1 fk2 fdv fr hfr
 have Hown1 : Hid (w1.ownsRow w.heap.size 41 11 (.slice (some ⟨g, 0, none⟩) 11 11) 11 (opsRow os1)) := by
  have hcs : cur.size = 11 * 11 := by
   have := congrArg List.length hcl
   rw [opsRow_length, hl1] at this
   simpa using this
  exact ⟨by rw [opsRow_length, hl1], .inr ⟨g, 11, cur, rfl, hg1, hcur, Nat.le_refl _, by simp [maxLen], hcs, by rw [← hcl, List.take_of_length_le (by simp [hcs])]⟩⟩
 have Hsrc1 : Hid (SrcAt w1 sv os.length (opsRow os)) := by
  rcases hsrc with h | ⟨b, off, c, rfl, hrow⟩ | h
  ·exact .inl h
  ·refine .inr (.inl ⟨b, off, c, rfl, ?_⟩)
   intro j v hv
   have := hrow j v hv
   exact below_at hb1 this (lt_of_cell this)
  ·exact .inr (.inr h)
 have Hok1 := hide hok1
 clear hcur hcl hok1 hone1 hsrc hos1 hfr
 have hz1 := hb1.size
 go_wp2_with (at_builtin; refine wpList_append_src rfl (.tmp 13) (.tmp 14) 22 rfl w.heap.size 41 (.agg #[.int .i64 0, .int .i64 0, .int .i64 0, .int .i64 0, .int .i64 0, .int .i64 0, .slice none 0 0, .slice none 0 0, .slice none 0 0, .slice none 0 0, .string ⟨#[]⟩]) 11 160 Tryz.underlying22 Tryz.info41 rfl (by omega) _ 11 (opsRow os1) rfl Hown1.out sv os.length (opsRow os) rfl Hsrc1.out (opsRow_length os) Hone.out (by omega) (by omega) (by omega) ?_)
 intro v2 w2 hown2 hgr2 hwh2
 have hrow2 : opsRow os1 ++ opsRow os = opsRow (os1 ++ os) := by simp [opsRow]
 rw [hrow2] at hown2
 clear hrow2
 obtain ⟨N, hN⟩ : ∃ N, N = 11 + os.length := ⟨_, rfl⟩
 rw [← hN] at hown2
 rcases owns_row hown2.out with ⟨_, h0, _⟩ | ⟨ga, cap, rfl, hga1, hga2, hrowa⟩
 ·omega
 have hb2 : Below g w1 w2 := (Below.refl _ _).grown hgr2.out (by omega) (by intro k hk; simp [Value.ownBlock] at hk; omega)
 have hbw2 : Below w.heap.size w w2 := hb1.trans (hb2.mono hg1)
 have hz2 := hb2.size
 have hNl : (os1 ++ os).length = N := by rw [List.length_append, hl1, hN]
 have HokA : Hid (∀ o ∈ os1 ++ os, OpOK w2.heap.size w2 o) := by
  intro o ho
  rcases List.mem_append.1 ho with h | h
  ·exact ((Hok1.out o h).below hb2).mono (by omega)
  ·exact ((Hos.out o h).below hbw2).mono (by omega)
 have HkA : Hid (∀ o ∈ os1 ++ os, K w2.heap.size w2 o) := by
  intro o ho
  rcases List.mem_append.1 ho with h | h
  ·exact HP.out.kmono _ _ _ _ (HP.out.kbelow _ _ _ _ (Hk1.out o h) hb2) (by omega)
  ·exact HP.out.kmono _ _ _ _ (HP.out.kbelow _ _ _ _ (Hks.out o h) hbw2) (by omega)
 generalize os1 ++ os = all at hown2 hrowa hNl HokA HkA
 have hNb : N * 160 ≤ 140737488355328 := by omega
 have hNl2 : N ≤ lim := by omega
 have HNl := hide hNl
 clear hNl hN Hok1 Hk1 Hks Hos Hown1 Hsrc1 Hone hown2 hgr2 hwh2 hl1 hn hlim
 go_wp2
 go_loopw [7, 8, 9, 10, 11] (fun i _ _ _ _ wr => ∃ (k j : Nat) (lv : Value) (ps : List Pair) (bk : BookD), k ≤ N ∧ j ≤ k ∧ i = .int .i64 k ∧ ps.length ≤ k ∧ Below w2.heap.size w2 wr ∧ Inv w2.heap.size wr w2.heap.size lv ps bk ∧ Hid (Good j bk)) (fun i _ _ _ _ _ => N - (intOf i).toNat)
 case atStart =>
  obtain ⟨bk0, hg0, hi0⟩ := HP.out.start
  exact ⟨0, 0, _, [], bk0, by omega, by omega, rfl, by simp, (Below.refl _ _).alloc (Nat.le_refl _) _, hi0 w2 35, hg0⟩
 case round =>
  obtain ⟨k, j, lv, ps, bk, hk, hjk, rfl, hpk, hbel, hI, hG⟩ := hrel
  have HI := hide hI
  clear hI
  by_cases hlt : k < N
  ·have d1 : decide ((k : Int) < (N : Int)) = true := by simp; omega
   have d2 : decide ((k : Int) < 144115188075855872) = true := by simp; omega
   obtain ⟨o, ho⟩ : ∃ o, all[k]? = some o := ⟨all[k]'(by rw [HNl.out]; exact hlt), by simp [HNl.out, hlt]⟩
   obtain ⟨x0, x1, x2, x3, x4, x5, x6, x7, x8, x9, x10⟩ := op_cells (RowAt.below hrowa hbel hga2) ho
   have HOK : Hid (OpOK w2.heap.size wr o) := ((HokA.out o (List.mem_of_getElem? ho)).below hbel)
   have HKK : Hid (K w2.heap.size wr o) := HP.out.kbelow _ _ _ _ (HkA.out o (List.mem_of_getElem? ho)) hbel
   have Ho := hide ho
   clear ho
   obtain ⟨ka, kn, kc, hkv⟩ : ∃ a n c, o.kv = .slice a n c := by
    obtain ⟨_, ⟨h, _⟩ | ⟨b, off, cap, h, _⟩ | ⟨ea, ec, h, _⟩⟩ := HOK.out.kinds
    ·exact ⟨_, _, _, h⟩
    ·exact ⟨_, _, _, h⟩
    ·exact ⟨_, _, _, h⟩
   obtain ⟨la, lc, hlv⟩ := HOK.out.draws.form
   obtain ⟨ra, rn, rc, hrv⟩ := HOK.out.rform
   obtain ⟨qa, qn, qc, hqv⟩ := HOK.out.qform
   obtain ⟨ss, hsv⟩ := HOK.out.sform
   rw [hkv] at x6
   rw [hlv] at x7
   rw [hrv] at x8
   rw [hqv] at x9
   rw [hsv] at x10
   have Hf : Hid (o.kv = .slice ka kn kc ∧ o.l = .slice la o.draws.length lc ∧ o.rv = .slice ra rn rc ∧ o.qv = .slice qa qn qc ∧ o.sv = .string ss) := ⟨hkv, hlv, hrv, hqv, hsv⟩
   clear hkv hlv hrv hqv hsv
   obtain ⟨W1, hW1⟩ : ∃ W1, W1 = wr.alloc (.cells #[.int .i64 o.kind, .int .i64 o.a, .int .i64 o.b, .int .i64 o.c, .int .i64 o.d, .int .i64 o.ents, .slice ka kn kc, .slice la o.draws.length lc, .slice ra rn rc, .slice qa qn qc, .string ss] 41) := ⟨_, rfl⟩
   have hbW1 : Below wr.heap.size wr W1 := by rw [hW1]; exact (Below.refl _ _).alloc (Nat.le_refl _) _
   have hzr := hbel.size
   have hbw2W1 : Below w2.heap.size w2 W1 := hbel.trans (hbW1.mono (by omega))
   have z0 : W1.cell? ⟨wr.heap.size, 0, none⟩ = some (.int .i64 o.kind) := by rw [hW1]; simp [go_sem]
   have z1 : W1.cell? ⟨wr.heap.size, 1, none⟩ = some (.int .i64 o.a) := by rw [hW1]; simp [go_sem]
   have z2 : W1.cell? ⟨wr.heap.size, 2, none⟩ = some (.int .i64 o.b) := by rw [hW1]; simp [go_sem]
   have z3 : W1.cell? ⟨wr.heap.size, 3, none⟩ = some (.int .i64 o.c) := by rw [hW1]; simp [go_sem]
   have z4 : W1.cell? ⟨wr.heap.size, 4, none⟩ = some (.int .i64 o.d) := by rw [hW1]; simp [go_sem]
   have z5 : W1.cell? ⟨wr.heap.size, 5, none⟩ = some (.int .i64 o.ents) := by rw [hW1]; simp [go_sem]
   have z6 : W1.cell? ⟨wr.heap.size, 6, none⟩ = some (.slice ka kn kc) := by rw [hW1]; simp [go_sem]
   have z7 : W1.cell? ⟨wr.heap.size, 7, none⟩ = some (.slice la o.draws.length lc) := by rw [hW1]; simp [go_sem]
   have z8 : W1.cell? ⟨wr.heap.size, 8, none⟩ = some (.slice ra rn rc) := by rw [hW1]; simp [go_sem]
   have z9 : W1.cell? ⟨wr.heap.size, 9, none⟩ = some (.slice qa qn qc) := by rw [hW1]; simp [go_sem]
   have z10 : W1.cell? ⟨wr.heap.size, 10, none⟩ = some (.string ss) := by rw [hW1]; simp [go_sem]
   have HW1 := hide hW1
   have HI1 := hide (HI.out.below hbW1)
   clear hW1
   have HAm : Hid (∀ W, Below w2.heap.size w2 W → Calls Tryz.prog 10 #[.slice (some ⟨pb, 0, none⟩) pl.length pl.length, .int .i64 o.kind] W fun e w' => e = .returned (.bool (amongF pl o.kind)) ∧ w' = W) := by
    intro W hW
    exact among_any pb 0 pl.length pl o.kind W HP.out.len (RowAt.below hpl (hbw2.trans (hW.mono (by omega))) hpb)
   go_wp2_with fail
   rw [← HW1.out]
   refine (HAm.out _ hbw2W1).mono ?_
   rintro e w4 ⟨rfl, rfl⟩
   rcases hin : amongF pl o.kind with _ | _
   ·go_wp2
    go_roundw
    case rel => exact ⟨k + 1, j, lv, ps, bk, by omega, by omega, by go_num, by omega, hbw2W1, HI1.out, hG⟩
    case measure => simp [intOf]; omega
   ·have HS := hide (HP.out.step j w2.heap.size w2.heap.size lv ps bk o w4 (by omega) HI1.out hG.out (HOK.out.below (hbW1.mono (by omega))) (HP.out.kbelow _ _ _ _ HKK.out (hbW1.mono (by omega))) hin (by omega) (by omega))
    rw [Hf.out.1, Hf.out.2.1, Hf.out.2.2.1, Hf.out.2.2.2.1, Hf.out.2.2.2.2] at HS
    go_wp2_with fail
    refine HS.out.mono ?_
    rintro e w5 ⟨rfl, hB5, lv5, ps5, bk5, hl5, hI5, hG5⟩
    have HI5 := hide hI5
    have HG5 := hide hG5
    clear hI5 hG5
    have hB25 : Below w2.heap.size w2 w5 := hbw2W1.trans hB5
    have HLk := hide (HP.out.looks (j + 1) _ _ _ _ _ _ (by omega) HI5.out HG5.out)
    go_wp2_with fail
    refine HLk.out.mono ?_
    rintro e w6 ⟨rfl, hb6⟩
    have hz5 := hB25.size
    have HI6 := hide (HI5.out.below hb6)
    have HB26 : Hid (Below w2.heap.size w2 w6) := hB25.trans (hb6.mono hz5)
    clear hb6 HLk
    go_wp2_with fail
    go_roundw
    case rel => exact ⟨k + 1, j + 1, lv5, ps5, bk5, by omega, by omega, by go_num, by omega, HB26.out, HI6.out, HG5⟩
    case measure => simp [intOf]; omega
  ·have d1 : decide ((k : Int) < (N : Int)) = false := by simp; omega
   have HAp := hide (HP.out.apart j _ _ _ _ _ _ (by omega) HI.out hG.out)
   go_wp2_with fail
   refine HAp.out.mono ?_
   rintro e w6 ⟨rfl, hb6⟩
   have HB6 : Hid (Below w2.heap.size w2 w6) := hbel.trans hb6
   clear hb6 HAp
   go_wp2_with fail
   go_ret
   exact ⟨rfl, hbw2.trans (HB6.out.mono (by omega))⟩
def noK (_ : Nat) (_ : World) (_ : OpD) : Prop := True
theorem PlayX.of {pl : List Int} {lim : Nat} {Good : Nat → BookD → Prop} (h1 : ∃ bk0, Good 0 bk0 ∧ ∀ (w : World) (T : TypeId), Inv w.heap.size (w.alloc (.cells #[.slice none 0 0, .slice none 0 0, .slice none 0 0, .slice none 0 0] T)) w.heap.size (.slice none 0 0) [] bk0) (h2 : pl.length ≤ 1000)
  (h3 : ∀ (j base wb : Nat) (lv : Value) (ps : List Pair) (bk : BookD) (o : OpD) (w : World), j < lim → Inv base w wb lv ps bk → Good j bk → OpOK base w o → amongF pl o.kind = true → (ps.length + 1) * 16 ≤ 140737488355328 → 0 < base →
   Calls Tryz.prog 11 #[.pointer (some ⟨wb, 0, none⟩), .agg #[.int .i64 o.kind, .int .i64 o.a, .int .i64 o.b, .int .i64 o.c, .int .i64 o.d, .int .i64 o.ents, o.kv, o.l, o.rv, o.qv, o.sv]] w
    fun e w' => e = .returned (.bool true) ∧ Below base w w' ∧ ∃ lv' ps' bk', ps'.length ≤ ps.length + 1 ∧ Inv base w' wb lv' ps' bk' ∧ Good (j + 1) bk')
  (h4 : ∀ (j base wb : Nat) (lv : Value) (ps : List Pair) (bk : BookD) (w : World), j ≤ lim → Inv base w wb lv ps bk → Good j bk → Calls Tryz.prog 12 #[.pointer (some ⟨wb, 1, none⟩)] w fun e w' => e = .returned (.bool true) ∧ Below w.heap.size w w')
  (h5 : ∀ (j base wb : Nat) (lv : Value) (ps : List Pair) (bk : BookD) (w : World), j ≤ lim → Inv base w wb lv ps bk → Good j bk → Calls Tryz.prog 13 #[.pointer (some ⟨wb, 1, none⟩)] w fun e w' => e = .returned (.bool true) ∧ Below base w w') : PlayX noK pl lim Good :=
 ⟨h1, h2, fun j base wb lv ps bk o w a b c d _ => h3 j base wb lv ps bk o w a b c d, h4, h5, fun _ _ _ _ _ _ => trivial, fun _ _ _ _ _ _ => trivial, fun _ _ _ _ _ _ _ _ _ => trivial⟩
theorem lw_looks {base : Nat} {wb : Nat} {lv : Value} {ps : List Pair} {k : BkD} {J : Nat} {w : World} (h : Inv base w wb lv ps (bookOf k)) (hG : BkLen J k) (hJ : J ≤ 2000000) : Calls Tryz.prog 12 #[.pointer (some ⟨wb, 1, none⟩)] w fun e w' => e = .returned (.bool true) ∧ Below w.heap.size w w' :=
 looks_any wb k w h.bkp (by have := hG.bl; omega) (by have := hG.il; omega) (by have := hG.rl; omega)
theorem bk0_len : BkLen 0 bk0 := ⟨by simp [bk0], by simp [bk0], by simp [bk0], by simp [bk0], by simp [bk0], by simp [bk0]⟩
theorem KindsIn.where {R : Nat → Prop} {w : World} {v : Value} {ks : List (List Ins)} (h : KindsIn R w v ks) (hk : 1 ≤ ks.length) : ∃ b off cap, v = .slice (some ⟨b, off, none⟩) ks.length cap ∧ R b ∧ ∀ B, (∀ x, R x → x < B) → KindsAt B w b off ks := by
 obtain ⟨hl, ⟨rfl, rfl⟩ | ⟨b, off, cap, rfl, hb, hr⟩⟩ := h
 ·simp at hk
 ·refine ⟨b, off, cap, rfl, hb, fun B hB i l hi => ?_⟩
  obtain ⟨v, hv, hc⟩ := hr i l hi
  exact ⟨v, hv, hc.toV hB⟩
def LKer (lo : Nat) (w : World) (xk : Nat) (ents : Int) (ks : List (List Ins)) (draws : List Int) (s : KS) : Prop :=
 ∃ qb mb ov R base, (lo ≤ base ∧ base ≤ w.heap.size) ∧ (∀ x, KSet xk qb mb ov x → base ≤ x) ∧ (∀ x, R x → base ≤ x) ∧ KerP R base w xk qb mb ov ents ks draws s
theorem LKer.only {lo : Nat} {w w' : World} {xk : Nat} {ents : Int} {ks : List (List Ins)} {draws : List Int} {s : KS} {S : Nat → Prop} (h : LKer lo w xk ents ks draws s) (ho : Only S w w') (hS : ∀ x, lo ≤ x → ¬ S x) : LKer lo w' xk ents ks draws s := by
 obtain ⟨qb, mb, ov, R, base, ⟨h1, h2⟩, h3, h4, h5⟩ := h
 have := ho.size
 exact ⟨qb, mb, ov, R, base, ⟨h1, by omega⟩, h3, h4, h5.only ho (fun b hb => hS b (by have := h3 b hb; omega)) (fun b hb => hS b (by have := h4 b hb; omega))⟩
def strL (s : ByteArray) : List Int := s.data.toList.map fun b => (b.toNat : Int)
theorem strL_bytes (s : ByteArray) : ∀ c ∈ strL s, 0 ≤ c ∧ c < 256 := by
 intro c hc
 obtain ⟨b, _, rfl⟩ := List.mem_map.1 hc
 have := b.toNat_lt
 omega
theorem strL_length (s : ByteArray) : (strL s).length = s.size := by
 show (s.data.toList.map _).length = s.data.size
 rw [List.length_map, Array.length_toList]
theorem strW_strL (s : ByteArray) : strW (strL s) = s := by
 obtain ⟨d⟩ := s
 have h : ∀ b : UInt8, UInt8.ofNat b.toNat = b := fun b => UInt8.ofNat_toNat
 simp [strW, strL, List.map_map, Function.comp_def, h]
def shortK (_ : Nat) (_ : World) (o : OpD) : Prop := ∃ s, o.sv = .string s ∧ s.size ≤ 1000000000
end Go.Proofs.YtndlmgocldckfaaGreat
