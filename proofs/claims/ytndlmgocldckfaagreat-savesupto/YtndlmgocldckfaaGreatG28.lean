import Derived.Test.YtndlmgocldckfaaGreatG27
import Derived.Test.YtndlmgocldckfaaGreatG21
import Derived.Test.YtndlmgocldckfaaGreatG05
import Derived.BigQuiet
import Derived.Deep.LoopGhost
import Derived.Deep.RegionHeld3
namespace Go.Proofs.YtndlmgocldckfaaGreat
open Go.RowKit
set_option linter.unusedVariables false
set_option linter.unusedSimpArgs false
set_option maxRecDepth 100000
set_option maxHeartbeats 4000000
theorem Tryz.info41 : (Tryz.prog.info? 41).map (fun i => (i.zero, i.size, i.bytes)) = some (some (.agg #[.int .i64 0, .int .i64 0, .int .i64 0, .int .i64 0, .int .i64 0, .int .i64 0, .slice none 0 0, .slice none 0 0, .slice none 0 0, .slice none 0 0, .string ⟨#[]⟩]), 11, 160) := by kernel_rfl
theorem opsRow_length (os : List OpD) : (opsRow os).length = os.length * 11 := by
 induction os with
 | nil => rfl
 | cons x l ih => simp [opsRow, opCells] at ih ⊢; omega
theorem opsRow_get : ∀ (os : List OpD) (i r : Nat), r < 11 → (opsRow os)[i * 11 + r]? = os[i]?.bind fun x => (opCells x)[r]?
 | [], i, r, _ => by simp [opsRow]
 | x :: l, 0, r, h => by
  rw [Nat.zero_mul, Nat.zero_add, opsRow, List.flatMap_cons, List.getElem?_append_left (by simp [opCells]; omega)]
  simp
 | x :: l, i + 1, r, h => by
  have ih := opsRow_get l i r h
  have e : (i + 1) * 11 + r = (opCells x).length + (i * 11 + r) := by simp [opCells]; omega
  rw [e, opsRow, List.flatMap_cons, List.getElem?_append_right (by omega)]
  simpa [opsRow] using ih
theorem op_cells {w : World} {g : Nat} {os : List OpD} {i : Nat} {o : OpD} (h : RowAt w g 0 (opsRow os)) (ho : os[i]? = some o) :
  w.cell? ⟨g, i * 11, none⟩ = some (.int .i64 o.kind) ∧ w.cell? ⟨g, i * 11 + 1, none⟩ = some (.int .i64 o.a) ∧ w.cell? ⟨g, i * 11 + 2, none⟩ = some (.int .i64 o.b) ∧ w.cell? ⟨g, i * 11 + 3, none⟩ = some (.int .i64 o.c) ∧ w.cell? ⟨g, i * 11 + 4, none⟩ = some (.int .i64 o.d) ∧ w.cell? ⟨g, i * 11 + 5, none⟩ = some (.int .i64 o.ents) ∧
  w.cell? ⟨g, i * 11 + 6, none⟩ = some o.kv ∧ w.cell? ⟨g, i * 11 + 7, none⟩ = some o.l ∧ w.cell? ⟨g, i * 11 + 8, none⟩ = some o.rv ∧ w.cell? ⟨g, i * 11 + 9, none⟩ = some o.qv ∧ w.cell? ⟨g, i * 11 + 10, none⟩ = some o.sv := by
 have q := fun r (hr : r < 11) (v : Value) (hv : (opCells o)[r]? = some v) => h (i * 11 + r) v (by rw [opsRow_get os i r hr, ho]; exact hv)
 simp only [Nat.zero_add] at q
 exact ⟨q 0 (by omega) _ rfl, q 1 (by omega) _ rfl, q 2 (by omega) _ rfl, q 3 (by omega) _ rfl, q 4 (by omega) _ rfl, q 5 (by omega) _ rfl, q 6 (by omega) _ rfl, q 7 (by omega) _ rfl, q 8 (by omega) _ rfl, q 9 (by omega) _ rfl, q 10 (by omega) _ rfl⟩
theorem OpOK.mono {B B' : Nat} {w : World} {o : OpD} (h : OpOK B w o) (hB : B ≤ B') : OpOK B' w o :=
 ⟨h.kinds.mono hB, h.draws.mono hB, h.alo, h.ahi, h.rform, h.qform, h.sform⟩
structure PlayX (K : Nat → World → OpD → Prop) (pl : List Int) (lim : Nat) (Good : Nat → BookD → Prop) : Prop where
 start : ∃ bk0, Good 0 bk0 ∧ ∀ (w : World) (T : TypeId), Inv w.heap.size (w.alloc (.cells #[.slice none 0 0, .slice none 0 0, .slice none 0 0, .slice none 0 0] T)) w.heap.size (.slice none 0 0) [] bk0
 len : pl.length ≤ 1000
 step : ∀ (j base wb : Nat) (lv : Value) (ps : List Pair) (bk : BookD) (o : OpD) (w : World), j < lim → Inv base w wb lv ps bk → Good j bk → OpOK base w o → K base w o → amongF pl o.kind = true → (ps.length + 1) * 16 ≤ 140737488355328 → 0 < base →
  Calls Tryz.prog 11 #[.pointer (some ⟨wb, 0, none⟩), .agg #[.int .i64 o.kind, .int .i64 o.a, .int .i64 o.b, .int .i64 o.c, .int .i64 o.d, .int .i64 o.ents, o.kv, o.l, o.rv, o.qv, o.sv]] w
   fun e w' => e = .returned (.bool true) ∧ Below base w w' ∧ ∃ lv' ps' bk', ps'.length ≤ ps.length + 1 ∧ Inv base w' wb lv' ps' bk' ∧ Good (j + 1) bk'
 looks : ∀ (j base wb : Nat) (lv : Value) (ps : List Pair) (bk : BookD) (w : World), j ≤ lim → Inv base w wb lv ps bk → Good j bk → Calls Tryz.prog 12 #[.pointer (some ⟨wb, 1, none⟩)] w fun e w' => e = .returned (.bool true) ∧ Below w.heap.size w w'
 apart : ∀ (j base wb : Nat) (lv : Value) (ps : List Pair) (bk : BookD) (w : World), j ≤ lim → Inv base w wb lv ps bk → Good j bk → Calls Tryz.prog 13 #[.pointer (some ⟨wb, 1, none⟩)] w fun e w' => e = .returned (.bool true) ∧ Below base w w'
 kbelow : ∀ (B : Nat) (w w' : World) (o : OpD), K B w o → Below B w w' → K B w' o
 kmono : ∀ (B B' : Nat) (w : World) (o : OpD), K B w o → B ≤ B' → K B' w o
 kfirst : ∀ (B : Nat) (w : World) (k1 k2 dv r : Value), FirstR B w r → ∀ o ∈ firstOps k1 k2 dv r, K B w o
theorem plays_all (K : Nat → World → OpD → Prop) (pl : List Int) (lim : Nat) (Good : Nat → BookD → Prop) (hP : PlayX K pl lim Good) (sv : Value) (os : List OpD) (pb : Nat) (w : World) (hsrc : SrcAt w sv os.length (opsRow os)) (hos : ∀ o ∈ os, OpOK w.heap.size w o) (hks : ∀ o ∈ os, K w.heap.size w o) (hone : ∀ u ∈ opsRow os, u.oneCell' = true) (hn : (os.length + 11) * 160 ≤ 140737488355328) (hlim : os.length + 11 ≤ lim)
  (hpl : RowAt w pb 0 (ints pl)) (hpb : pb < w.heap.size) :
  Calls Tryz.prog 8 #[sv, .slice (some ⟨pb, 0, none⟩) pl.length pl.length] w fun e w' => e = .returned (.bool true) ∧ Below w.heap.size w w' := by
 have HP := hide hP
 clear hP
 have Hos := hide hos
 have Hks := hide hks
 have Hone := hide hone
 clear hos hone hks
 go_enter Tryz.func8, Tryz.ntmps8
 go_wp2_with fail
 refine (first_any _).mono ?_
 rintro e w1 ⟨g, os1, rfl, hb1, hg1, hl1, ⟨cur, hcur, hcl⟩, hg2, hok1, hone1, fk1, fk2, fdv, fr, hos1, hfr⟩
 have Hk1 : Hid (∀ o ∈ os1, K g w1 o) := by
  rw [hos1]
  exact HP.out.kfirst g w1 fk1 fk2 fdv fr hfr
 have Hown1 : Hid (w1.ownsRow w.heap.size 41 11 (.slice (some ⟨g, 0, none⟩) 11 11) 11 (opsRow os1)) := by
  have hcs : cur.size = 11 * 11 := by
   have := congrArg List.length hcl
   rw [opsRow_length, hl1] at this
   simpa using this
  exact ⟨by rw [opsRow_length, hl1], .inr ⟨g, 11, cur, rfl, hg1, hcur, Nat.le_refl _, by simp [maxLen], hcs, by rw [← hcl, List.take_of_length_le (by simp [hcs])]⟩⟩
 have Hsrc1 : Hid (SrcAt w1 sv os.length (opsRow os)) := by
  rcases hsrc with h | ⟨b, off, c, rfl, hrow⟩ | h
  ·exact .inl h
  ·refine .inr (.inl ⟨b, off, c, rfl, ?_⟩)
   intro j v hv
   have := hrow j v hv
   exact below_at hb1 this (lt_of_cell this)
  ·exact .inr (.inr h)
 have Hok1 := hide hok1
 clear hcur hcl hok1 hone1 hsrc hos1 hfr
 have hz1 := hb1.size
 go_wp2_with (at_builtin; refine wpList_append_src rfl (.tmp 13) (.tmp 14) 22 rfl w.heap.size 41 (.agg #[.int .i64 0, .int .i64 0, .int .i64 0, .int .i64 0, .int .i64 0, .int .i64 0, .slice none 0 0, .slice none 0 0, .slice none 0 0, .slice none 0 0, .string ⟨#[]⟩]) 11 160 Tryz.underlying22 Tryz.info41 rfl (by omega) _ 11 (opsRow os1) rfl Hown1.out sv os.length (opsRow os) rfl Hsrc1.out (opsRow_length os) Hone.out (by omega) (by omega) (by omega) ?_)
 intro v2 w2 hown2 hgr2 hwh2
 have hrow2 : opsRow os1 ++ opsRow os = opsRow (os1 ++ os) := by simp [opsRow]
 rw [hrow2] at hown2
 clear hrow2
 obtain ⟨N, hN⟩ : ∃ N, N = 11 + os.length := ⟨_, rfl⟩
 rw [← hN] at hown2
 rcases owns_row hown2.out with ⟨_, h0, _⟩ | ⟨ga, cap, rfl, hga1, hga2, hrowa⟩
 ·omega
 have hb2 : Below g w1 w2 := (Below.refl _ _).grown hgr2.out (by omega) (by intro k hk; simp [Value.ownBlock] at hk; omega)
 have hbw2 : Below w.heap.size w w2 := hb1.trans (hb2.mono hg1)
 have hz2 := hb2.size
 have hNl : (os1 ++ os).length = N := by rw [List.length_append, hl1, hN]
 have HokA : Hid (∀ o ∈ os1 ++ os, OpOK w2.heap.size w2 o) := by
  intro o ho
  rcases List.mem_append.1 ho with h | h
  ·exact ((Hok1.out o h).below hb2).mono (by omega)
  ·exact ((Hos.out o h).below hbw2).mono (by omega)
 have HkA : Hid (∀ o ∈ os1 ++ os, K w2.heap.size w2 o) := by
  intro o ho
  rcases List.mem_append.1 ho with h | h
  ·exact HP.out.kmono _ _ _ _ (HP.out.kbelow _ _ _ _ (Hk1.out o h) hb2) (by omega)
  ·exact HP.out.kmono _ _ _ _ (HP.out.kbelow _ _ _ _ (Hks.out o h) hbw2) (by omega)
 generalize os1 ++ os = all at hown2 hrowa hNl HokA HkA
 have hNb : N * 160 ≤ 140737488355328 := by omega
 have hNl2 : N ≤ lim := by omega
 have HNl := hide hNl
 clear hNl hN Hok1 Hk1 Hks Hos Hown1 Hsrc1 Hone hown2 hgr2 hwh2 hl1 hn hlim
 go_wp2
 go_loopw [7, 8, 9, 10, 11] (fun i _ _ _ _ wr => ∃ (k j : Nat) (lv : Value) (ps : List Pair) (bk : BookD), k ≤ N ∧ j ≤ k ∧ i = .int .i64 k ∧ ps.length ≤ k ∧ Below w2.heap.size w2 wr ∧ Inv w2.heap.size wr w2.heap.size lv ps bk ∧ Hid (Good j bk)) (fun i _ _ _ _ _ => N - (intOf i).toNat)
 case atStart =>
  obtain ⟨bk0, hg0, hi0⟩ := HP.out.start
  exact ⟨0, 0, _, [], bk0, by omega, by omega, rfl, by simp, (Below.refl _ _).alloc (Nat.le_refl _) _, hi0 w2 35, hg0⟩
 case round =>
  obtain ⟨k, j, lv, ps, bk, hk, hjk, rfl, hpk, hbel, hI, hG⟩ := hrel
  have HI := hide hI
  clear hI
  by_cases hlt : k < N
  ·have d1 : decide ((k : Int) < (N : Int)) = true := by simp; omega
   have d2 : decide ((k : Int) < 144115188075855872) = true := by simp; omega
   obtain ⟨o, ho⟩ : ∃ o, all[k]? = some o := ⟨all[k]'(by rw [HNl.out]; exact hlt), by simp [HNl.out, hlt]⟩
   obtain ⟨x0, x1, x2, x3, x4, x5, x6, x7, x8, x9, x10⟩ := op_cells (RowAt.below hrowa hbel hga2) ho
   have HOK : Hid (OpOK w2.heap.size wr o) := ((HokA.out o (List.mem_of_getElem? ho)).below hbel)
   have HKK : Hid (K w2.heap.size wr o) := HP.out.kbelow _ _ _ _ (HkA.out o (List.mem_of_getElem? ho)) hbel
   have Ho := hide ho
   clear ho
   obtain ⟨ka, kn, kc, hkv⟩ : ∃ a n c, o.kv = .slice a n c := by
    obtain ⟨_, ⟨h, _⟩ | ⟨b, off, cap, h, _⟩ | ⟨ea, ec, h, _⟩⟩ := HOK.out.kinds
    ·exact ⟨_, _, _, h⟩
    ·exact ⟨_, _, _, h⟩
    ·exact ⟨_, _, _, h⟩
   obtain ⟨la, lc, hlv⟩ := HOK.out.draws.form
   obtain ⟨ra, rn, rc, hrv⟩ := HOK.out.rform
   obtain ⟨qa, qn, qc, hqv⟩ := HOK.out.qform
   obtain ⟨ss, hsv⟩ := HOK.out.sform
   rw [hkv] at x6
   rw [hlv] at x7
   rw [hrv] at x8
   rw [hqv] at x9
   rw [hsv] at x10
   have Hf : Hid (o.kv = .slice ka kn kc ∧ o.l = .slice la o.draws.length lc ∧ o.rv = .slice ra rn rc ∧ o.qv = .slice qa qn qc ∧ o.sv = .string ss) := ⟨hkv, hlv, hrv, hqv, hsv⟩
   clear hkv hlv hrv hqv hsv
   obtain ⟨W1, hW1⟩ : ∃ W1, W1 = wr.alloc (.cells #[.int .i64 o.kind, .int .i64 o.a, .int .i64 o.b, .int .i64 o.c, .int .i64 o.d, .int .i64 o.ents, .slice ka kn kc, .slice la o.draws.length lc, .slice ra rn rc, .slice qa qn qc, .string ss] 41) := ⟨_, rfl⟩
   have hbW1 : Below wr.heap.size wr W1 := by rw [hW1]; exact (Below.refl _ _).alloc (Nat.le_refl _) _
   have hzr := hbel.size
   have hbw2W1 : Below w2.heap.size w2 W1 := hbel.trans (hbW1.mono (by omega))
   have z0 : W1.cell? ⟨wr.heap.size, 0, none⟩ = some (.int .i64 o.kind) := by rw [hW1]; simp [go_sem]
   have z1 : W1.cell? ⟨wr.heap.size, 1, none⟩ = some (.int .i64 o.a) := by rw [hW1]; simp [go_sem]
   have z2 : W1.cell? ⟨wr.heap.size, 2, none⟩ = some (.int .i64 o.b) := by rw [hW1]; simp [go_sem]
   have z3 : W1.cell? ⟨wr.heap.size, 3, none⟩ = some (.int .i64 o.c) := by rw [hW1]; simp [go_sem]
   have z4 : W1.cell? ⟨wr.heap.size, 4, none⟩ = some (.int .i64 o.d) := by rw [hW1]; simp [go_sem]
   have z5 : W1.cell? ⟨wr.heap.size, 5, none⟩ = some (.int .i64 o.ents) := by rw [hW1]; simp [go_sem]
   have z6 : W1.cell? ⟨wr.heap.size, 6, none⟩ = some (.slice ka kn kc) := by rw [hW1]; simp [go_sem]
   have z7 : W1.cell? ⟨wr.heap.size, 7, none⟩ = some (.slice la o.draws.length lc) := by rw [hW1]; simp [go_sem]
   have z8 : W1.cell? ⟨wr.heap.size, 8, none⟩ = some (.slice ra rn rc) := by rw [hW1]; simp [go_sem]
   have z9 : W1.cell? ⟨wr.heap.size, 9, none⟩ = some (.slice qa qn qc) := by rw [hW1]; simp [go_sem]
   have z10 : W1.cell? ⟨wr.heap.size, 10, none⟩ = some (.string ss) := by rw [hW1]; simp [go_sem]
   have HW1 := hide hW1
   have HI1 := hide (HI.out.below hbW1)
   clear hW1
   have HAm : Hid (∀ W, Below w2.heap.size w2 W → Calls Tryz.prog 10 #[.slice (some ⟨pb, 0, none⟩) pl.length pl.length, .int .i64 o.kind] W fun e w' => e = .returned (.bool (amongF pl o.kind)) ∧ w' = W) := by
    intro W hW
    exact among_any pb 0 pl.length pl o.kind W HP.out.len (RowAt.below hpl (hbw2.trans (hW.mono (by omega))) hpb)
   go_wp2_with fail
   rw [← HW1.out]
   refine (HAm.out _ hbw2W1).mono ?_
   rintro e w4 ⟨rfl, rfl⟩
   rcases hin : amongF pl o.kind with _ | _
   ·go_wp2
    go_roundw
    case rel => exact ⟨k + 1, j, lv, ps, bk, by omega, by omega, by go_num, by omega, hbw2W1, HI1.out, hG⟩
    case measure => simp [intOf]; omega
   ·have HS := hide (HP.out.step j w2.heap.size w2.heap.size lv ps bk o w4 (by omega) HI1.out hG.out (HOK.out.below (hbW1.mono (by omega))) (HP.out.kbelow _ _ _ _ HKK.out (hbW1.mono (by omega))) hin (by omega) (by omega))
    rw [Hf.out.1, Hf.out.2.1, Hf.out.2.2.1, Hf.out.2.2.2.1, Hf.out.2.2.2.2] at HS
    go_wp2_with fail
    refine HS.out.mono ?_
    rintro e w5 ⟨rfl, hB5, lv5, ps5, bk5, hl5, hI5, hG5⟩
    have HI5 := hide hI5
    have HG5 := hide hG5
    clear hI5 hG5
    have hB25 : Below w2.heap.size w2 w5 := hbw2W1.trans hB5
    have HLk := hide (HP.out.looks (j + 1) _ _ _ _ _ _ (by omega) HI5.out HG5.out)
    go_wp2_with fail
    refine HLk.out.mono ?_
    rintro e w6 ⟨rfl, hb6⟩
    have hz5 := hB25.size
    have HI6 := hide (HI5.out.below hb6)
    have HB26 : Hid (Below w2.heap.size w2 w6) := hB25.trans (hb6.mono hz5)
    clear hb6 HLk
    go_wp2_with fail
    go_roundw
    case rel => exact ⟨k + 1, j + 1, lv5, ps5, bk5, by omega, by omega, by go_num, by omega, HB26.out, HI6.out, HG5⟩
    case measure => simp [intOf]; omega
  ·have d1 : decide ((k : Int) < (N : Int)) = false := by simp; omega
   have HAp := hide (HP.out.apart j _ _ _ _ _ _ (by omega) HI.out hG.out)
   go_wp2_with fail
   refine HAp.out.mono ?_
   rintro e w6 ⟨rfl, hb6⟩
   have HB6 : Hid (Below w2.heap.size w2 w6) := hbel.trans hb6
   clear hb6 HAp
   go_wp2_with fail
   go_ret
   exact ⟨rfl, hbw2.trans (HB6.out.mono (by omega))⟩
def noK (_ : Nat) (_ : World) (_ : OpD) : Prop := True
theorem PlayX.of {pl : List Int} {lim : Nat} {Good : Nat → BookD → Prop} (h1 : ∃ bk0, Good 0 bk0 ∧ ∀ (w : World) (T : TypeId), Inv w.heap.size (w.alloc (.cells #[.slice none 0 0, .slice none 0 0, .slice none 0 0, .slice none 0 0] T)) w.heap.size (.slice none 0 0) [] bk0) (h2 : pl.length ≤ 1000)
  (h3 : ∀ (j base wb : Nat) (lv : Value) (ps : List Pair) (bk : BookD) (o : OpD) (w : World), j < lim → Inv base w wb lv ps bk → Good j bk → OpOK base w o → amongF pl o.kind = true → (ps.length + 1) * 16 ≤ 140737488355328 → 0 < base →
   Calls Tryz.prog 11 #[.pointer (some ⟨wb, 0, none⟩), .agg #[.int .i64 o.kind, .int .i64 o.a, .int .i64 o.b, .int .i64 o.c, .int .i64 o.d, .int .i64 o.ents, o.kv, o.l, o.rv, o.qv, o.sv]] w
    fun e w' => e = .returned (.bool true) ∧ Below base w w' ∧ ∃ lv' ps' bk', ps'.length ≤ ps.length + 1 ∧ Inv base w' wb lv' ps' bk' ∧ Good (j + 1) bk')
  (h4 : ∀ (j base wb : Nat) (lv : Value) (ps : List Pair) (bk : BookD) (w : World), j ≤ lim → Inv base w wb lv ps bk → Good j bk → Calls Tryz.prog 12 #[.pointer (some ⟨wb, 1, none⟩)] w fun e w' => e = .returned (.bool true) ∧ Below w.heap.size w w')
  (h5 : ∀ (j base wb : Nat) (lv : Value) (ps : List Pair) (bk : BookD) (w : World), j ≤ lim → Inv base w wb lv ps bk → Good j bk → Calls Tryz.prog 13 #[.pointer (some ⟨wb, 1, none⟩)] w fun e w' => e = .returned (.bool true) ∧ Below base w w') : PlayX noK pl lim Good :=
 ⟨h1, h2, fun j base wb lv ps bk o w a b c d _ => h3 j base wb lv ps bk o w a b c d, h4, h5, fun _ _ _ _ _ _ => trivial, fun _ _ _ _ _ _ => trivial, fun _ _ _ _ _ _ _ _ _ => trivial⟩
theorem mark_any (n : Nat) (w : World) (hn : n ≤ 2199023255552) : Calls Tryz.prog 19 #[.int .i64 n] w fun e w' => e = .returned (.int .u8 (200 + ((n / 4 % 50 : Nat) : Int))) ∧ w' = w := by
 go_enter Tryz.func19, Tryz.ntmps19
 go_wp2
 go_ret
 refine ⟨?_, rfl⟩
 simp
 try omega
theorem lawSame_any (a b c d e f g h : Int) (x y : Value) (w : World) : Calls Tryz.prog 20 #[.agg #[.int .i64 a, .int .i64 b, .int .i64 c, .int .i64 d, x], .agg #[.int .i64 e, .int .i64 f, .int .i64 g, .int .i64 h, y]] w fun r w' => r = .returned (.bool (decide (a = e) && (decide (b = f) && (decide (c = g) && decide (d = h))))) ∧ Below w.heap.size w w' := by
 have hb : Below w.heap.size w _ := ((Below.refl w.heap.size w).alloc (Nat.le_refl _) (.cells #[.int .i64 a, .int .i64 b, .int .i64 c, .int .i64 d, x] 46)).alloc (by simp) (.cells #[.int .i64 e, .int .i64 f, .int .i64 g, .int .i64 h, y] 46)
 have HB := hide hb
 clear hb
 by_cases h1 : a = e
 rotate_left
 ·have d1 : (a == e) = false := by simpa using h1
  go_enter Tryz.func20, Tryz.ntmps20
  go_wp2
  go_ret
  exact ⟨by simp [h1], HB.out⟩
 by_cases h2 : b = f
 rotate_left
 ·have d1 : (b == f) = false := by simpa using h2
  subst h1
  go_enter Tryz.func20, Tryz.ntmps20
  go_wp2
  go_ret
  exact ⟨by simp [h2], HB.out⟩
 by_cases h3 : c = g
 rotate_left
 ·have d1 : (c == g) = false := by simpa using h3
  subst h1 h2
  go_enter Tryz.func20, Tryz.ntmps20
  go_wp2
  go_ret
  exact ⟨by simp [h3], HB.out⟩
 subst h1 h2 h3
 go_enter Tryz.func20, Tryz.ntmps20
 go_wp2
 go_ret
 exact ⟨by simp; rfl, HB.out⟩
theorem reps_at {n j : Nat} {v : Value} (h : j < n) : (reps n [v])[j]? = some v := by
 have := reps_get n j 0 [v] (by simp) h
 simpa using this
theorem reps_at5 {n j i : Nat} {a b c d e : Value} (h : j < n) (hi : i < 5) : (reps n [a, b, c, d, e])[j * 5 + i]? = [a, b, c, d, e][i]? := reps_get n j i [a, b, c, d, e] hi h
theorem list_at {w : World} {base : Nat} {e : TypeId} {v : Value} {l : List Value} (h : w.ownsRow base e 1 v l.length l) {i : Nat} {x : Value} (hx : l[i]? = some x) : ∃ g cap, v = .slice (some ⟨g, 0, none⟩) l.length cap ∧ w.cell? ⟨g, i, none⟩ = some x := by
 have hi := (List.getElem?_eq_some_iff.1 hx).1
 rcases owns_row h with ⟨_, h0, _⟩ | ⟨g, cap, rfl, _, _, hr⟩
 ·omega
 ·have := hr i x hx
  rw [Nat.zero_add] at this
  exact ⟨g, cap, rfl, this⟩
theorem looks_any (wb : Nat) (k : BkD) (w : World) (h : BkP w wb k) (hlb : k.bl.length ≤ 1099511627776) (hli : k.il.length ≤ 1099511627776) (hlr : k.rl.length ≤ 1099511627776) :
  Calls Tryz.prog 12 #[.pointer (some ⟨wb, 1, none⟩)] w fun e w' => e = .returned (.bool true) ∧ Below w.heap.size w w' := by
 have H := hide h
 have hwl := h.lt
 obtain ⟨ba, bc, hbv⟩ := owns_formK h.ok.bown
 obtain ⟨ia, ic, hiv⟩ := owns_formK h.ok.iown
 obtain ⟨ra, rc, hrv⟩ := owns_formK h.ok.rown
 have c1 := h.c1
 have c2 := h.c2
 have c3 := h.c3
 rw [hbv] at c1
 rw [hiv] at c2
 rw [hrv] at c3
 have Hbv := hide hbv
 have Hiv := hide hiv
 have Hrv := hide hrv
 clear h hbv hiv hrv
 go_enter Tryz.func12, Tryz.ntmps12
 go_wp2
 go_loopw [3, 4, 5] (fun i _ _ wr => ∃ (n : Nat), n ≤ k.bl.length ∧ i = .int .i64 n ∧ wr = w) (fun i _ _ _ => k.bl.length - (intOf i).toNat)
 case atStart => exact ⟨0, Nat.zero_le _, rfl, rfl⟩
 case round =>
  obtain ⟨n, hn, rfl, rfl⟩ := hrel
  by_cases hlt : n < k.bl.length
  ·have d1 : decide ((n : Int) < (k.bl.length : Int)) = true := by simp; omega
   have hnn : (n : Int) < (k.bl.length : Int) := by omega
   have hw : IntKind.i64.wrap ((n : Int) + 1) = (n : Int) + 1 := by rw [IntKind.wrap_i64]; omega
   obtain ⟨v, hv⟩ : ∃ v, k.bl[n]? = some v := ⟨k.bl[n], List.getElem?_eq_getElem hlt⟩
   obtain ⟨g, cap, hg, cg⟩ := list_at H.out.ok.bown hv
   obtain ⟨m, hm, ea, ec, rfl, hx⟩ := H.out.ok.bent n v hv
   rw [Hbv.out] at hg
   simp only [Value.slice.injEq, true_and] at hg
   obtain ⟨rfl, rfl⟩ := hg
   have HX := hide hx
   clear hx hv
   go_wp2_with (go_at_call 19; refine (mark_any n _ (by omega)).mono ?_; rintro e w1 ⟨rfl, rfl⟩)
   rename World => wo
   go_loopw [5] (fun j wr => ∃ (q : Nat), q ≤ m ∧ j = .int .i64 q ∧ wr = wo) (fun j _ => m - (intOf j).toNat)
   case atStart => exact ⟨0, Nat.zero_le _, rfl, rfl⟩
   case round =>
    obtain ⟨q, hq, rfl, rfl⟩ := hrel
    by_cases hqt : q < m
    ·have d2 : decide ((q : Int) < (m : Int)) = true := by simp; omega
     have hqq : (q : Int) < (m : Int) := by omega
     have hw2 : IntKind.i64.wrap ((q : Int) + 1) = (q : Int) + 1 := by rw [IntKind.wrap_i64]; omega
     obtain ⟨b, rfl, hr⟩ := HX.out (by omega)
     have cq := hr q _ (reps_at hqt)
     rw [Nat.zero_add] at cq
     clear hr
     go_wp2
     go_roundw
     case rel => exact ⟨q + 1, by omega, by go_num, trivial⟩
     case measure => simp [intOf]; omega
    ·have d2 : decide ((q : Int) < (m : Int)) = false := by simp; omega
     go_wp2
     go_roundw
     case rel => exact ⟨n + 1, by omega, by go_num, trivial⟩
     case measure => simp [intOf]; omega
  ·have d1 : decide ((n : Int) < (k.bl.length : Int)) = false := by simp; omega
   go_wp2
   clear hn hlt d1
   rename World => wo
   go_loopw [6, 7] (fun i _ wr => ∃ (n : Nat), n ≤ k.il.length ∧ i = .int .i64 n ∧ wr = wo) (fun i _ _ => k.il.length - (intOf i).toNat)
   case atStart => exact ⟨0, Nat.zero_le _, rfl, rfl⟩
   case round =>
    obtain ⟨n, hn, rfl, rfl⟩ := hrel
    by_cases hlt : n < k.il.length
    ·have d1 : decide ((n : Int) < (k.il.length : Int)) = true := by simp; omega
     have hnn : (n : Int) < (k.il.length : Int) := by omega
     have hw : IntKind.i64.wrap ((n : Int) + 1) = (n : Int) + 1 := by rw [IntKind.wrap_i64]; omega
     obtain ⟨v, hv⟩ : ∃ v, k.il[n]? = some v := ⟨k.il[n], List.getElem?_eq_getElem hlt⟩
     obtain ⟨g, cap, hg, cg⟩ := list_at H.out.ok.iown hv
     obtain ⟨m, hm, ea, ec, rfl, hx⟩ := H.out.ok.ient n v hv
     rw [Hiv.out] at hg
     simp only [Value.slice.injEq, true_and] at hg
     obtain ⟨rfl, rfl⟩ := hg
     have HX := hide hx
     clear hx hv
     go_wp2_with fail
     rename World => wo
     go_loopw [7] (fun j wr => ∃ (q : Nat), q ≤ m ∧ j = .int .i64 q ∧ wr = wo) (fun j _ => m - (intOf j).toNat)
     case atStart => exact ⟨0, Nat.zero_le _, rfl, rfl⟩
     case round =>
      obtain ⟨q, hq, rfl, rfl⟩ := hrel
      by_cases hqt : q < m
      ·have d2 : decide ((q : Int) < (m : Int)) = true := by simp; omega
       have hqq : (q : Int) < (m : Int) := by omega
       have hw2 : IntKind.i64.wrap ((q : Int) + 1) = (q : Int) + 1 := by rw [IntKind.wrap_i64]; omega
       obtain ⟨b, rfl, hr⟩ := HX.out (by omega)
       have cq := hr q _ (reps_at hqt)
       rw [Nat.zero_add, show (((n / 4 : Nat)) : Int) = (n : Int) / 4 by omega] at cq
       have e4 : Int.tdiv (n : Int) 4 = (n : Int) / 4 := Int.tdiv_eq_ediv_of_nonneg (by omega)
       have dn : ((-1000 - (n : Int) / 4) != (-1000 - (n : Int) / 4)) = false := by simp
       clear hr
       go_wp2
       go_roundw
       case rel => exact ⟨q + 1, by omega, by go_num, trivial⟩
       case measure => simp [intOf]; omega
      ·have d2 : decide ((q : Int) < (m : Int)) = false := by simp; omega
       go_wp2
       go_roundw
       case rel => exact ⟨n + 1, by omega, by go_num, trivial⟩
       case measure => simp [intOf]; omega
    ·have d1 : decide ((n : Int) < (k.il.length : Int)) = false := by simp; omega
     go_wp2
     clear hn hlt d1
     rename World => wo
     go_loopw [8, 9, 10, 11] (fun i _ _ _ wr => ∃ (n : Nat), n ≤ k.rl.length ∧ i = .int .i64 n ∧ Hid (Below wo.heap.size wo wr)) (fun i _ _ _ _ => k.rl.length - (intOf i).toNat)
     case atStart => exact ⟨0, Nat.zero_le _, rfl, Below.refl _ _⟩
     case round =>
      obtain ⟨n, hn, rfl, hB⟩ := hrel
      have c30 := c3
      have c3' := below_at hB.out c3 hwl
      clear c3
      by_cases hlt : n < k.rl.length
      ·have d1 : decide ((n : Int) < (k.rl.length : Int)) = true := by simp; omega
       have hnn : (n : Int) < (k.rl.length : Int) := by omega
       have hw : IntKind.i64.wrap ((n : Int) + 1) = (n : Int) + 1 := by rw [IntKind.wrap_i64]; omega
       obtain ⟨v, hv⟩ : ∃ v, k.rl[n]? = some v := ⟨k.rl[n], List.getElem?_eq_getElem hlt⟩
       obtain ⟨g, cap, hg, cg⟩ := list_at H.out.ok.rown hv
       obtain ⟨m, hm, ea, ec, rfl, hx⟩ := H.out.ok.rent n v hv
       rw [Hrv.out] at hg
       simp only [Value.slice.injEq, true_and] at hg
       obtain ⟨rfl, rfl⟩ := hg
       have HX := hide hx
       clear hx hv
       rename World => wr
       have hzr := hB.out.size
       have e4 : Int.tdiv (n : Int) 4 = (n : Int) / 4 := Int.tdiv_eq_ediv_of_nonneg (by omega)
       obtain ⟨m0, hm0⟩ : ∃ m0 : Int, m0 = -1000 - (n : Int) / 4 := ⟨_, rfl⟩
       obtain ⟨W2, hW2⟩ : ∃ W2, W2 = wr.alloc (.cells #[.int .i64 m0, .int .i64 0, .int .i64 0, .int .i64 0, .slice none 0 0] 46) := ⟨_, rfl⟩
       have hb2 : Below wr.heap.size wr W2 := by rw [hW2]; exact alloc_below _ _
       have hz2 : W2.heap.size = wr.heap.size + 1 := by rw [hW2]; simp
       have a0 : W2.cell? ⟨wr.heap.size, 0, none⟩ = some (.int .i64 m0) := by rw [hW2]; simp [go_sem]
       have a1 : W2.cell? ⟨wr.heap.size, 1, none⟩ = some (.int .i64 0) := by rw [hW2]; simp [go_sem]
       have a2 : W2.cell? ⟨wr.heap.size, 2, none⟩ = some (.int .i64 0) := by rw [hW2]; simp [go_sem]
       have a3 : W2.cell? ⟨wr.heap.size, 3, none⟩ = some (.int .i64 0) := by rw [hW2]; simp [go_sem]
       have a4 : W2.cell? ⟨wr.heap.size, 4, none⟩ = some (.slice none 0 0) := by rw [hW2]; simp [go_sem]
       have HB2 : Hid (Below wo.heap.size wo W2) := hB.out.trans (hb2.mono hzr)
       clear hb2
       have HW2 := hide hW2
       clear hW2
       go_wp2_with fail
       rw [← hm0, ← HW2.out]
       have Hm0 : Hid (.int .i64 m0 = Value.int .i64 (-1000 - ((n / 4 : Nat) : Int))) := by show _ = _; rw [hm0]; congr 2
       clear hm0 HW2 e4
       go_loopw [10, 11] (fun j _ wx => ∃ (q : Nat), q ≤ m ∧ j = .int .i64 q ∧ Hid (Below W2.heap.size W2 wx)) (fun j _ _ => m - (intOf j).toNat)
       case atStart => exact ⟨0, Nat.zero_le _, rfl, Below.refl _ _⟩
       case round =>
        obtain ⟨q, hq, rfl, hX⟩ := hrel
        rename World => wx
        have hzx := hX.out.size
        have hoz := HB2.out.size
        have HBX : Hid (Below wo.heap.size wo wx) := HB2.out.trans (hX.out.mono (by omega))
        have k3 := below_at HBX.out c30 hwl
        have kg := below_at HBX.out cg (lt_of_cell cg)
        by_cases hqt : q < m
        ·have d2 : decide ((q : Int) < (m : Int)) = true := by simp; omega
         have hqq : (q : Int) < (m : Int) := by omega
         have hw2 : IntKind.i64.wrap ((q : Int) + 1) = (q : Int) + 1 := by rw [IntKind.wrap_i64]; omega
         obtain ⟨b, rfl, hr⟩ := HX.out (by omega)
         have r0 := hr (q * 5 + 0) _ (reps_at5 hqt (by omega))
         have r1 := hr (q * 5 + 1) _ (reps_at5 hqt (by omega))
         have r2 := hr (q * 5 + 2) _ (reps_at5 hqt (by omega))
         have r3 := hr (q * 5 + 3) _ (reps_at5 hqt (by omega))
         have r4 := hr (q * 5 + 4) _ (reps_at5 hqt (by omega))
         simp only [Nat.zero_add, Nat.add_zero] at r0 r1 r2 r3 r4
         rw [← Hm0.out] at r0
         have u0 := below_at HBX.out r0 (lt_of_cell r0)
         have u1 := below_at HBX.out r1 (lt_of_cell r1)
         have u2 := below_at HBX.out r2 (lt_of_cell r2)
         have u3 := below_at HBX.out r3 (lt_of_cell r3)
         have u4 := below_at HBX.out r4 (lt_of_cell r4)
         have v0 := below_at hX.out a0 (by omega)
         have v1 := below_at hX.out a1 (by omega)
         have v2 := below_at hX.out a2 (by omega)
         have v3 := below_at hX.out a3 (by omega)
         have v4 := below_at hX.out a4 (by omega)
         clear hr r0 r1 r2 r3 r4
         go_wp2_with fail
         go_region_held3 (fun W' => W'.cell? ⟨wb, 3, none⟩ = some (.slice (some ⟨g, 0, none⟩) k.rl.length rc) ∧ W'.cell? ⟨g, n, none⟩ = some (.slice (some ⟨b, 0, none⟩) m ec) ∧ W'.cell? ⟨b, q * 5, none⟩ = some (.int .i64 m0) ∧ W'.cell? ⟨b, q * 5 + 1, none⟩ = some (.int .i64 0) ∧ W'.cell? ⟨b, q * 5 + 2, none⟩ = some (.int .i64 0) ∧ W'.cell? ⟨b, q * 5 + 3, none⟩ = some (.int .i64 0) ∧ W'.cell? ⟨b, q * 5 + 4, none⟩ = some (.slice none 0 0) ∧ W'.cell? ⟨wr.heap.size, 0, none⟩ = some (.int .i64 m0) ∧ W'.cell? ⟨wr.heap.size, 1, none⟩ = some (.int .i64 0) ∧ W'.cell? ⟨wr.heap.size, 2, none⟩ = some (.int .i64 0) ∧ W'.cell? ⟨wr.heap.size, 3, none⟩ = some (.int .i64 0) ∧ W'.cell? ⟨wr.heap.size, 4, none⟩ = some (.slice none 0 0))
          (first | exact ⟨k3, kg, u0, u1, u2, u3, u4, v0, v1, v2, v3, v4⟩ | exact ⟨below_at hb5 k3 (lt_of_cell k3), below_at hb5 kg (lt_of_cell kg), below_at hb5 u0 (lt_of_cell u0), below_at hb5 u1 (lt_of_cell u1), below_at hb5 u2 (lt_of_cell u2), below_at hb5 u3 (lt_of_cell u3), below_at hb5 u4 (lt_of_cell u4), below_at hb5 v0 (lt_of_cell v0), below_at hb5 v1 (lt_of_cell v1), below_at hb5 v2 (lt_of_cell v2), below_at hb5 v3 (lt_of_cell v3), below_at hb5 v4 (lt_of_cell v4)⟩)
          (first | (go_at_call 20; refine (lawSame_any m0 0 0 0 m0 0 0 0 (.slice none 0 0) (.slice none 0 0) wx.drew).mono ?_; rintro e' w5 ⟨rfl, hb5'⟩; (have hb5 : Below wx.heap.size wx w5 := (Below.refl _ _).drew.trans hb5')))
         have y3 := below_at hb5 k3 (lt_of_cell k3)
         have yg := below_at hb5 kg (lt_of_cell kg)
         have y4 := below_at hb5 u4 (lt_of_cell u4)
         clear k3 kg u0 u1 u2 u3 u4 v0 v1 v2 v3 v4
         have HB5 : Hid (Below W2.heap.size W2 w5) := hX.out.trans (hb5.mono hzx)
         clear hb5 hb5'
         go_wp2_with fail
         go_roundw
         case rel => exact ⟨q + 1, by omega, by go_num, HB5.out⟩
         case measure => simp [intOf]; omega
        ·have d2 : decide ((q : Int) < (m : Int)) = false := by simp; omega
         go_wp2
         go_roundw
         case rel => exact ⟨n + 1, by omega, by go_num, HBX.out⟩
         case measure => simp [intOf]; omega
      ·have d1 : decide ((n : Int) < (k.rl.length : Int)) = false := by simp; omega
       go_wp2
       go_ret
       exact ⟨rfl, hB.out⟩
theorem lw_ask {base : Nat} (wb : Nat) (lv : Value) (ps : List Pair) (k : BkD) (J : Nat) (o : OpD) (w : World) (h : Inv base w wb lv ps (bookOf k)) (ho : OpOK base w o) (hk : o.kind = 3 ∨ o.kind = 4 ∨ o.kind = 5 ∨ o.kind = 6) (hlen : (ps.length + 1) * 16 ≤ 140737488355328) (hG : BkLen J k) (hJ : J ≤ 2000000) :
  Calls Tryz.prog 11 #[.pointer (some ⟨wb, 0, none⟩), .agg #[.int .i64 o.kind, .int .i64 o.a, .int .i64 o.b, .int .i64 o.c, .int .i64 o.d, .int .i64 o.ents, o.kv, o.l, o.rv, o.qv, o.sv]] w
   fun e w' => e = .returned (.bool true) ∧ Below base w w' ∧ ∃ lv' ps' bk', ps'.length ≤ ps.length + 1 ∧ Inv base w' wb lv' ps' bk' ∧ ∃ k', bk' = bookOf k' ∧ BkLen (J + 1) k' ∧ k'.bl = k.bl := by
 by_cases hp : ps = []
 ·subst hp
  refine (lw_none wb lv (bookOf k) o w h (by omega)).mono ?_
  rintro e w' ⟨rfl, hB, lv', ps', hl, hI⟩
  exact ⟨rfl, hB, lv', ps', _, hl, hI, k, rfl, hG.next, rfl⟩
 ·have hps := List.length_pos_iff.2 hp
  by_cases h4 : o.kind = 4
  ·refine lw_askedG wb lv ps (bookOf k) o w h ho (by omega) hps hlen (fun bk => ∃ k', bk = bookOf k' ∧ BkLen (J + 1) k' ∧ k'.bl = k.bl) ?_
   intro W' p hI hp'
   rw [h4]
   refine (asked_run wb lv ps k J _ p o.a o.b o.c o.d o.ents o.kv o.l o.rv o.qv o.sv W' hI hp' hG hJ).mono ?_
   rintro e w' ⟨rfl, ho', ps', k', hl, hi, hb, hbl⟩
   exact ⟨rfl, ho', ps', _, hl, hi, k', rfl, hb, hbl⟩
  ·refine (lw_asked wb lv ps (bookOf k) o w h ho (by omega) hps hlen).mono ?_
   rintro e w' ⟨rfl, hB, lv', ps', hl, hI⟩
   exact ⟨rfl, hB, lv', ps', _, hl, hI, k, rfl, hG.next, rfl⟩
theorem lw_looks {base : Nat} {wb : Nat} {lv : Value} {ps : List Pair} {k : BkD} {J : Nat} {w : World} (h : Inv base w wb lv ps (bookOf k)) (hG : BkLen J k) (hJ : J ≤ 2000000) : Calls Tryz.prog 12 #[.pointer (some ⟨wb, 1, none⟩)] w fun e w' => e = .returned (.bool true) ∧ Below w.heap.size w w' :=
 looks_any wb k w h.bkp (by have := hG.bl; omega) (by have := hG.il; omega) (by have := hG.rl; omega)
theorem bk0_len : BkLen 0 bk0 := ⟨by simp [bk0], by simp [bk0], by simp [bk0], by simp [bk0], by simp [bk0], by simp [bk0]⟩
end Go.Proofs.YtndlmgocldckfaaGreat
