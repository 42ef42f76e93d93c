import Derived.Test.YtndlmgocldckfaaGreatLxZ
import Derived.Test.YtndlmgocldckfaaGreatLnZ
import Derived.ProofKit
import Derived.Deep.Slices
import Derived.SizedLaws
import Derived.Lib.SmallJoins
import Derived.OpenShut
import Derived.ChangeOld
namespace Go.Proofs.YtndlmgocldckfaaGreat
open Go.RowKit
set_option linter.unusedVariables false
set_option linter.unusedSimpArgs false

theorem Tryz.info41 : (Tryz.prog.info? 41).map (fun i => (i.zero, i.size, i.bytes)) = some (some (.agg #[.int .i64 0, .int .i64 0, .int .i64 0, .int .i64 0, .int .i64 0, .int .i64 0, .slice none 0 0, .slice none 0 0, .slice none 0 0, .slice none 0 0, .string ⟨#[]⟩]), 11, 160) := by kernel_rfl

theorem opsRow_length (os : List OpD) : (opsRow os).length = os.length * 11 := by
  induction os with
  | nil => rfl
  | cons x l ih => simp [opsRow, opCells] at ih ⊢; omega
theorem opsRow_get : ∀ (os : List OpD) (i r : Nat), r < 11 → (opsRow os)[i * 11 + r]? = os[i]?.bind fun x => (opCells x)[r]?
  | [], i, r, _ => by simp [opsRow]
  | x :: l, 0, r, h => by
    rw [Nat.zero_mul, Nat.zero_add, opsRow, List.flatMap_cons, List.getElem?_append_left (by simp [opCells]; omega)]
    simp
  | x :: l, i + 1, r, h => by
    have ih := opsRow_get l i r h
    have e : (i + 1) * 11 + r = (opCells x).length + (i * 11 + r) := by simp [opCells]; omega
    rw [e, opsRow, List.flatMap_cons, List.getElem?_append_right (by omega)]
    simpa [opsRow] using ih

theorem op_cells {w : World} {g : Nat} {os : List OpD} {i : Nat} {o : OpD} (h : RowAt w g 0 (opsRow os)) (ho : os[i]? = some o) :
    w.cell? ⟨g, i * 11, none⟩ = some (.int .i64 o.kind) ∧ w.cell? ⟨g, i * 11 + 1, none⟩ = some (.int .i64 o.a) ∧ w.cell? ⟨g, i * 11 + 2, none⟩ = some (.int .i64 o.b) ∧ w.cell? ⟨g, i * 11 + 3, none⟩ = some (.int .i64 o.c) ∧ w.cell? ⟨g, i * 11 + 4, none⟩ = some (.int .i64 o.d) ∧ w.cell? ⟨g, i * 11 + 5, none⟩ = some (.int .i64 o.ents) ∧
    w.cell? ⟨g, i * 11 + 6, none⟩ = some o.kv ∧ w.cell? ⟨g, i * 11 + 7, none⟩ = some o.l ∧ w.cell? ⟨g, i * 11 + 8, none⟩ = some o.rv ∧ w.cell? ⟨g, i * 11 + 9, none⟩ = some o.qv ∧ w.cell? ⟨g, i * 11 + 10, none⟩ = some o.sv := by
  have q := fun r (hr : r < 11) (v : Value) (hv : (opCells o)[r]? = some v) => h (i * 11 + r) v (by rw [opsRow_get os i r hr, ho]; exact hv)
  simp only [Nat.zero_add] at q
  exact ⟨q 0 (by omega) _ rfl, q 1 (by omega) _ rfl, q 2 (by omega) _ rfl, q 3 (by omega) _ rfl, q 4 (by omega) _ rfl, q 5 (by omega) _ rfl, q 6 (by omega) _ rfl, q 7 (by omega) _ rfl, q 8 (by omega) _ rfl, q 9 (by omega) _ rfl, q 10 (by omega) _ rfl⟩

/-- A step of whatever kind in play. -/
theorem lw_step {base : Nat} (wb : Nat) (lv : Value) (ps : List Pair) (bk : BookD) (o : OpD) (w : World) (h : Inv base w wb lv ps bk) (ho : OpOK base w o) (hk : o.kind = 1 ∨ o.kind = 2 ∨ o.kind = 3 ∨ o.kind = 5 ∨ o.kind = 6) (hlen : (ps.length + 1) * 16 ≤ 140737488355328) (hb0 : 0 < base) :
    Calls Tryz.prog 11 #[.pointer (some ⟨wb, 0, none⟩), .agg #[.int .i64 o.kind, .int .i64 o.a, .int .i64 o.b, .int .i64 o.c, .int .i64 o.d, .int .i64 o.ents, o.kv, o.l, o.rv, o.qv, o.sv]] w
      fun e w' => e = .returned (.bool true) ∧ Below base w w' ∧ ∃ lv' ps', ps'.length ≤ ps.length + 1 ∧ Inv base w' wb lv' ps' bk := by
  by_cases h12 : o.kind = 1 ∨ o.kind = 2
  · exact lw_made wb lv ps bk o w h ho h12 hlen hb0
  · have h356 : o.kind = 3 ∨ o.kind = 5 ∨ o.kind = 6 := by omega
    by_cases hp : ps = []
    · subst hp; exact lw_none wb lv bk o w h (by omega)
    · exact lw_asked wb lv ps bk o w h ho h356 (List.length_pos_iff.2 hp) hlen

theorem OpOK.mono {B B' : Nat} {w : World} {o : OpD} (h : OpOK B w o) (hB : B ≤ B') : OpOK B' w o :=
  ⟨h.kinds.mono hB, h.draws.mono hB, h.alo, h.ahi, h.rform, h.qform, h.sform⟩

theorem bookZ_stable : bookZ.stable := fun _ _ _ _ _ _ => trivial
theorem inv_start (w : World) (T : TypeId) : Inv w.heap.size (w.alloc (.cells #[.slice none 0 0, .slice none 0 0, .slice none 0 0, .slice none 0 0] T)) w.heap.size (.slice none 0 0) [] bookZ := by
  refine ⟨by simp [go_sem], ⟨by simp [go_sem, bookZ], by simp [go_sem, bookZ], by simp [go_sem, bookZ]⟩, ?_, World.ownsRow_nil _ _ _ _, by simp [Value.ownBlock], Nat.le_refl _, by simp, by simp, by simp, fun b hb => False.elim hb, trivial, bookZ_stable⟩
  intro j hj
  have : j = 0 ∨ j = 1 ∨ j = 2 ∨ j = 3 := by omega
  rcases this with rfl | rfl | rfl | rfl <;> simp [go_sem]

/-- What is asked of the kinds in play, and of the book. -/
structure PlayOK (pl : List Int) (lim : Nat) (Good : Nat → BookD → Prop) : Prop where
  start : ∃ bk0, Good 0 bk0 ∧ ∀ (w : World) (T : TypeId), Inv w.heap.size (w.alloc (.cells #[.slice none 0 0, .slice none 0 0, .slice none 0 0, .slice none 0 0] T)) w.heap.size (.slice none 0 0) [] bk0
  len : pl.length ≤ 1000
  step : ∀ (j base wb : Nat) (lv : Value) (ps : List Pair) (bk : BookD) (o : OpD) (w : World), j < lim → Inv base w wb lv ps bk → Good j bk → OpOK base w o → amongF pl o.kind = true → (ps.length + 1) * 16 ≤ 140737488355328 → 0 < base →
    Calls Tryz.prog 11 #[.pointer (some ⟨wb, 0, none⟩), .agg #[.int .i64 o.kind, .int .i64 o.a, .int .i64 o.b, .int .i64 o.c, .int .i64 o.d, .int .i64 o.ents, o.kv, o.l, o.rv, o.qv, o.sv]] w
      fun e w' => e = .returned (.bool true) ∧ Below base w w' ∧ ∃ lv' ps' bk', ps'.length ≤ ps.length + 1 ∧ Inv base w' wb lv' ps' bk' ∧ Good (j + 1) bk'
  looks : ∀ (j base wb : Nat) (lv : Value) (ps : List Pair) (bk : BookD) (w : World), j ≤ lim → Inv base w wb lv ps bk → Good j bk → Calls Tryz.prog 12 #[.pointer (some ⟨wb, 1, none⟩)] w fun e w' => e = .returned (.bool true) ∧ Below w.heap.size w w'
  apart : ∀ (j base wb : Nat) (lv : Value) (ps : List Pair) (bk : BookD) (w : World), j ≤ lim → Inv base w wb lv ps bk → Good j bk → Calls Tryz.prog 13 #[.pointer (some ⟨wb, 1, none⟩)] w fun e w' => e = .returned (.bool true) ∧ Below base w w'

set_option maxRecDepth 100000 in
set_option maxHeartbeats 4000000 in
theorem plays_any (pl : List Int) (lim : Nat) (Good : Nat → BookD → Prop) (hP : PlayOK pl lim Good) (sv : Value) (os : List OpD) (pb : Nat) (w : World) (hsrc : SrcAt w sv os.length (opsRow os)) (hos : ∀ o ∈ os, OpOK w.heap.size w o) (hone : ∀ u ∈ opsRow os, u.oneCell' = true) (hn : (os.length + 11) * 160 ≤ 140737488355328) (hlim : os.length + 11 ≤ lim)
    (hpl : RowAt w pb 0 (ints pl)) (hpb : pb < w.heap.size) :
    Calls Tryz.prog 8 #[sv, .slice (some ⟨pb, 0, none⟩) pl.length pl.length] w fun e w' => e = .returned (.bool true) ∧ Below w.heap.size w w' := by
  have HP := hide hP
  clear hP
  have Hos := hide hos
  have Hone := hide hone
  clear hos hone
  go_enter Tryz.func8, Tryz.ntmps8
  go_wp2_with fail
  refine (first_any _).mono ?_
  rintro e w1 ⟨g, os1, rfl, hb1, hg1, hl1, ⟨cur, hcur, hcl⟩, hg2, hok1, hone1⟩
  have Hown1 : Hid (w1.ownsRow w.heap.size 41 11 (.slice (some ⟨g, 0, none⟩) 11 11) 11 (opsRow os1)) := by
    have hcs : cur.size = 11 * 11 := by
      have := congrArg List.length hcl
      rw [opsRow_length, hl1] at this
      simpa using this
    exact ⟨by rw [opsRow_length, hl1], .inr ⟨g, 11, cur, rfl, hg1, hcur, Nat.le_refl _, by simp [maxLen], hcs, by rw [← hcl, List.take_of_length_le (by simp [hcs])]⟩⟩
  have Hsrc1 : Hid (SrcAt w1 sv os.length (opsRow os)) := by
    rcases hsrc with h | ⟨b, off, c, rfl, hrow⟩ | h
    · exact .inl h
    · refine .inr (.inl ⟨b, off, c, rfl, ?_⟩)
      intro j v hv
      have := hrow j v hv
      exact below_at hb1 this (lt_of_cell this)
    · exact .inr (.inr h)
  have Hok1 := hide hok1
  clear hcur hcl hok1 hone1 hsrc
  have hz1 := hb1.size
  go_wp2_with (at_builtin; refine wpList_append_src rfl (.tmp 13) (.tmp 14) 22 rfl w.heap.size 41 (.agg #[.int .i64 0, .int .i64 0, .int .i64 0, .int .i64 0, .int .i64 0, .int .i64 0, .slice none 0 0, .slice none 0 0, .slice none 0 0, .slice none 0 0, .string ⟨#[]⟩]) 11 160 Tryz.underlying22 Tryz.info41 rfl (by omega) _ 11 (opsRow os1) rfl Hown1.out sv os.length (opsRow os) rfl Hsrc1.out (opsRow_length os) Hone.out (by omega) (by omega) (by omega) ?_)
  intro v2 w2 hown2 hgr2 hwh2
  have hrow2 : opsRow os1 ++ opsRow os = opsRow (os1 ++ os) := by simp [opsRow]
  rw [hrow2] at hown2
  clear hrow2
  obtain ⟨N, hN⟩ : ∃ N, N = 11 + os.length := ⟨_, rfl⟩
  rw [← hN] at hown2
  rcases owns_row hown2.out with ⟨_, h0, _⟩ | ⟨ga, cap, rfl, hga1, hga2, hrowa⟩
  · omega
  have hb2 : Below g w1 w2 := (Below.refl _ _).grown hgr2.out (by omega) (by intro k hk; simp [Value.ownBlock] at hk; omega)
  have hbw2 : Below w.heap.size w w2 := hb1.trans (hb2.mono hg1)
  have hz2 := hb2.size
  have hNl : (os1 ++ os).length = N := by rw [List.length_append, hl1, hN]
  have HokA : Hid (∀ o ∈ os1 ++ os, OpOK w2.heap.size w2 o) := by
    intro o ho
    rcases List.mem_append.1 ho with h | h
    · exact ((Hok1.out o h).below hb2).mono (by omega)
    · exact ((Hos.out o h).below hbw2).mono (by omega)
  generalize os1 ++ os = all at hown2 hrowa hNl HokA
  have hNb : N * 160 ≤ 140737488355328 := by omega
  have hNl2 : N ≤ lim := by omega
  have HNl := hide hNl
  clear hNl hN Hok1 Hos Hown1 Hsrc1 Hone hown2 hgr2 hwh2 hl1 hn hlim
  go_wp2
  go_loopw [7, 8, 9, 10, 11] (fun i _ _ _ _ wr => ∃ (k j : Nat) (lv : Value) (ps : List Pair) (bk : BookD), k ≤ N ∧ j ≤ k ∧ i = .int .i64 k ∧ ps.length ≤ k ∧ Below w2.heap.size w2 wr ∧ Inv w2.heap.size wr w2.heap.size lv ps bk ∧ Hid (Good j bk)) (fun i _ _ _ _ _ => N - (intOf i).toNat)
  case atStart =>
    obtain ⟨bk0, hg0, hi0⟩ := HP.out.start
    exact ⟨0, 0, _, [], bk0, by omega, by omega, rfl, by simp, (Below.refl _ _).alloc (Nat.le_refl _) _, hi0 w2 35, hg0⟩
  case round =>
    obtain ⟨k, j, lv, ps, bk, hk, hjk, rfl, hpk, hbel, hI, hG⟩ := hrel
    have HI := hide hI
    clear hI
    by_cases hlt : k < N
    · have d1 : decide ((k : Int) < (N : Int)) = true := by simp; omega
      have d2 : decide ((k : Int) < 144115188075855872) = true := by simp; omega
      obtain ⟨o, ho⟩ : ∃ o, all[k]? = some o := ⟨all[k]'(by rw [HNl.out]; exact hlt), by simp [HNl.out, hlt]⟩
      obtain ⟨x0, x1, x2, x3, x4, x5, x6, x7, x8, x9, x10⟩ := op_cells (RowAt.below hrowa hbel hga2) ho
      have HOK : Hid (OpOK w2.heap.size wr o) := ((HokA.out o (List.mem_of_getElem? ho)).below hbel)
      have Ho := hide ho
      clear ho
      obtain ⟨ka, kn, kc, hkv⟩ : ∃ a n c, o.kv = .slice a n c := by
        obtain ⟨_, ⟨h, _⟩ | ⟨b, off, cap, h, _⟩ | ⟨ea, ec, h, _⟩⟩ := HOK.out.kinds
        · exact ⟨_, _, _, h⟩
        · exact ⟨_, _, _, h⟩
        · exact ⟨_, _, _, h⟩
      obtain ⟨la, lc, hlv⟩ := HOK.out.draws.form
      obtain ⟨ra, rn, rc, hrv⟩ := HOK.out.rform
      obtain ⟨qa, qn, qc, hqv⟩ := HOK.out.qform
      obtain ⟨ss, hsv⟩ := HOK.out.sform
      rw [hkv] at x6
      rw [hlv] at x7
      rw [hrv] at x8
      rw [hqv] at x9
      rw [hsv] at x10
      have Hf : Hid (o.kv = .slice ka kn kc ∧ o.l = .slice la o.draws.length lc ∧ o.rv = .slice ra rn rc ∧ o.qv = .slice qa qn qc ∧ o.sv = .string ss) := ⟨hkv, hlv, hrv, hqv, hsv⟩
      clear hkv hlv hrv hqv hsv
      obtain ⟨W1, hW1⟩ : ∃ W1, W1 = wr.alloc (.cells #[.int .i64 o.kind, .int .i64 o.a, .int .i64 o.b, .int .i64 o.c, .int .i64 o.d, .int .i64 o.ents, .slice ka kn kc, .slice la o.draws.length lc, .slice ra rn rc, .slice qa qn qc, .string ss] 41) := ⟨_, rfl⟩
      have hbW1 : Below wr.heap.size wr W1 := by rw [hW1]; exact (Below.refl _ _).alloc (Nat.le_refl _) _
      have hzr := hbel.size
      have hbw2W1 : Below w2.heap.size w2 W1 := hbel.trans (hbW1.mono (by omega))
      have z0 : W1.cell? ⟨wr.heap.size, 0, none⟩ = some (.int .i64 o.kind) := by rw [hW1]; simp [go_sem]
      have z1 : W1.cell? ⟨wr.heap.size, 1, none⟩ = some (.int .i64 o.a) := by rw [hW1]; simp [go_sem]
      have z2 : W1.cell? ⟨wr.heap.size, 2, none⟩ = some (.int .i64 o.b) := by rw [hW1]; simp [go_sem]
      have z3 : W1.cell? ⟨wr.heap.size, 3, none⟩ = some (.int .i64 o.c) := by rw [hW1]; simp [go_sem]
      have z4 : W1.cell? ⟨wr.heap.size, 4, none⟩ = some (.int .i64 o.d) := by rw [hW1]; simp [go_sem]
      have z5 : W1.cell? ⟨wr.heap.size, 5, none⟩ = some (.int .i64 o.ents) := by rw [hW1]; simp [go_sem]
      have z6 : W1.cell? ⟨wr.heap.size, 6, none⟩ = some (.slice ka kn kc) := by rw [hW1]; simp [go_sem]
      have z7 : W1.cell? ⟨wr.heap.size, 7, none⟩ = some (.slice la o.draws.length lc) := by rw [hW1]; simp [go_sem]
      have z8 : W1.cell? ⟨wr.heap.size, 8, none⟩ = some (.slice ra rn rc) := by rw [hW1]; simp [go_sem]
      have z9 : W1.cell? ⟨wr.heap.size, 9, none⟩ = some (.slice qa qn qc) := by rw [hW1]; simp [go_sem]
      have z10 : W1.cell? ⟨wr.heap.size, 10, none⟩ = some (.string ss) := by rw [hW1]; simp [go_sem]
      have HW1 := hide hW1
      have HI1 := hide (HI.out.below hbW1)
      clear hW1
      have HAm : Hid (∀ W, Below w2.heap.size w2 W → Calls Tryz.prog 10 #[.slice (some ⟨pb, 0, none⟩) pl.length pl.length, .int .i64 o.kind] W fun e w' => e = .returned (.bool (amongF pl o.kind)) ∧ w' = W) := by
        intro W hW
        exact among_any pb 0 pl.length pl o.kind W HP.out.len (RowAt.below hpl (hbw2.trans (hW.mono (by omega))) hpb)
      go_wp2_with fail
      rw [← HW1.out]
      refine (HAm.out _ hbw2W1).mono ?_
      rintro e w4 ⟨rfl, rfl⟩
      rcases hin : amongF pl o.kind with _ | _
      · go_wp2
        go_roundw
        case rel => exact ⟨k + 1, j, lv, ps, bk, by omega, by omega, by go_num, by omega, hbw2W1, HI1.out, hG⟩
        case measure => simp [intOf]; omega
      · have HS := hide (HP.out.step j w2.heap.size w2.heap.size lv ps bk o w4 (by omega) HI1.out hG.out (HOK.out.below (hbW1.mono (by omega))) hin (by omega) (by omega))
        rw [Hf.out.1, Hf.out.2.1, Hf.out.2.2.1, Hf.out.2.2.2.1, Hf.out.2.2.2.2] at HS
        go_wp2_with fail
        refine HS.out.mono ?_
        rintro e w5 ⟨rfl, hB5, lv5, ps5, bk5, hl5, hI5, hG5⟩
        have HI5 := hide hI5
        have HG5 := hide hG5
        clear hI5 hG5
        have hB25 : Below w2.heap.size w2 w5 := hbw2W1.trans hB5
        have HLk := hide (HP.out.looks (j + 1) _ _ _ _ _ _ (by omega) HI5.out HG5.out)
        go_wp2_with fail
        refine HLk.out.mono ?_
        rintro e w6 ⟨rfl, hb6⟩
        have hz5 := hB25.size
        have HI6 := hide (HI5.out.below hb6)
        have HB26 : Hid (Below w2.heap.size w2 w6) := hB25.trans (hb6.mono hz5)
        clear hb6 HLk
        go_wp2_with fail
        go_roundw
        case rel => exact ⟨k + 1, j + 1, lv5, ps5, bk5, by omega, by omega, by go_num, by omega, HB26.out, HI6.out, HG5⟩
        case measure => simp [intOf]; omega
    · have d1 : decide ((k : Int) < (N : Int)) = false := by simp; omega
      have HAp := hide (HP.out.apart j _ _ _ _ _ _ (by omega) HI.out hG.out)
      go_wp2_with fail
      refine HAp.out.mono ?_
      rintro e w6 ⟨rfl, hb6⟩
      have HB6 : Hid (Below w2.heap.size w2 w6) := hbel.trans hb6
      clear hb6 HAp
      go_wp2_with fail
      go_ret
      exact ⟨rfl, hbw2.trans (HB6.out.mono (by omega))⟩

/-! Models. -/

def playM : List Int := [1, 2, 3, 5, 6]
theorem playM_kind {k : Int} (h : amongF playM k = true) : k = 1 ∨ k = 2 ∨ k = 3 ∨ k = 5 ∨ k = 6 := by
  simpa [amongF, playM] using h
theorem playM_ok (lim : Nat) : PlayOK playM lim (fun _ bk => bk = bookZ) := by
  refine ⟨⟨bookZ, rfl, inv_start⟩, by decide, ?_, ?_, ?_⟩
  · rintro j base wb lv ps bk o w - h rfl ho hk hlen hb0
    refine (lw_step wb lv ps bookZ o w h ho (playM_kind hk) hlen hb0).mono ?_
    rintro e w' ⟨rfl, hB, lv', ps', hl, hI⟩
    exact ⟨rfl, hB, lv', ps', bookZ, hl, hI, rfl⟩
  · rintro j base wb lv ps bk w - h rfl
    refine (looks_empty wb w h.book.1 h.book.2.1 h.book.2.2).mono ?_
    rintro e w' ⟨rfl, rfl⟩
    exact ⟨rfl, Below.refl _ _⟩
  · rintro j base wb lv ps bk w - h rfl
    refine (apart_empty wb w h.book.1).mono ?_
    rintro e w' ⟨rfl, rfl⟩
    exact ⟨rfl, Below.refl _ _⟩
end Go.Proofs.YtndlmgocldckfaaGreat

namespace Go.Proofs.YtndlmgocldckfaaGreat
open Go.ChangeShapes Go.WideShapes Go.ChangeAt Go.RowKit Go.Deep Go.Joins
set_option linter.unusedVariables false
set_option linter.unusedSimpArgs false

/-! The script, as it is read, lies so. -/

theorem Tryz.cellsI : Tryz.prog.cellsOf 3 = 1 := by kernel_rfl
theorem Tryz.cellsC : Tryz.prog.cellsOf 59 = 4 := by kernel_rfl
theorem Tryz.cellsK : Tryz.prog.cellsOf 60 = 1 := by kernel_rfl
theorem Tryz.cellsKs : Tryz.prog.cellsOf 36 = 1 := by kernel_rfl
theorem Tryz.cellsIs : Tryz.prog.cellsOf 24 = 1 := by kernel_rfl
theorem Tryz.cellsRs : Tryz.prog.cellsOf 39 = 1 := by kernel_rfl
theorem Tryz.cellsS : Tryz.prog.cellsOf 9 = 1 := by kernel_rfl
theorem Tryz.cellsM : Tryz.prog.cellsOf 38 = 2 := by kernel_rfl
theorem Tryz.cellsO : Tryz.prog.cellsOf 41 = 11 := by kernel_rfl
theorem Tryz.bytesI : Tryz.prog.bytesOf 3 = 8 := by kernel_rfl
theorem Tryz.bytesC : Tryz.prog.bytesOf 59 = 32 := by kernel_rfl
theorem Tryz.bytesK : Tryz.prog.bytesOf 60 = 24 := by kernel_rfl
theorem Tryz.bytesO : Tryz.prog.bytesOf 41 = 160 := by kernel_rfl

section
variable {H : Type} {enc : TypeId × Value → H} {w : World} {spare : Nat → Bool} {held : Bool}

def WOK (t : TypeId) (d : DataW H) : Prop := ∀ n ∈ d.weights Tryz.prog t, n ≤ reachBytes

theorem weightsAll_mem {e : TypeId} : ∀ {ds : List (DataW H)} {d : DataW H}, d ∈ ds → ∀ n ∈ d.weights Tryz.prog e, n ∈ DataW.weightsAll Tryz.prog e ds
  | x :: ds, d, h, n, hn => by
    simp only [DataW.weightsAll, List.mem_append]
    rcases List.mem_cons.1 h with rfl | h
    · exact .inl hn
    · exact .inr (weightsAll_mem h n hn)

set_option maxRecDepth 100000 in
theorem WOK.slice {t e : TypeId} {els sp : List (DataW H)} (h : WOK t (.slice els sp)) (hu : Tryz.prog.underlying t = some (.slice e)) :
    (els.length + sp.length) * Tryz.prog.bytesOf e ≤ reachBytes ∧ ∀ d ∈ els, WOK e d := by
  have hW : (DataW.slice els sp).weights Tryz.prog t = (els.length + sp.length) * Tryz.prog.bytesOf e :: (DataW.weightsAll Tryz.prog e els ++ DataW.weightsAll Tryz.prog e sp) := by simp only [DataW.weights, hu]
  unfold WOK at h
  rw [hW] at h
  refine ⟨h _ (List.mem_cons_self ..), fun d hd n hn => h n (List.mem_cons_of_mem _ (List.mem_append.2 (.inl (weightsAll_mem hd n hn))))⟩

set_option maxRecDepth 100000 in
theorem instr_open {n : Nat} {cs : List Value} {x : DataW H × List MemPlace} (h : DataW.trod enc Tryz.prog w 0 spare held n 59 cs = some x) : ∃ i : Ins, cs = cells4 i := by
  obtain ⟨y0, y1, y2, y3, k, rfl, hl, h0, h1, h2, h3⟩ := trod_struct4 Tryz.underlying59 h
  rw [Tryz.cellsC] at hl
  match cs, hl with
  | [c0, c1, c2, c3], _ =>
    simp only [Tryz.cellsI] at h0 h1 h2 h3
    obtain ⟨n0, e0, _, _⟩ := DataW.trod_int Tryz.underlying3 h0
    obtain ⟨n1, e1, _, _⟩ := DataW.trod_int Tryz.underlying3 h1
    obtain ⟨n2, e2, _, _⟩ := DataW.trod_int Tryz.underlying3 h2
    obtain ⟨n3, e3, _, _⟩ := DataW.trod_int Tryz.underlying3 h3
    simp at e0 e1 e2 e3
    subst e0 e1 e2 e3
    exact ⟨⟨n0, n1, n2, n3⟩, rfl⟩

set_option maxRecDepth 100000 in
theorem code_open {n : Nat} {v : Value} {x : DataW H × List MemPlace} (h : DataW.trod enc Tryz.prog w 0 spare held n 60 [v] = some x) (hw : WOK 60 x.1) : ∃ l, CodeV w.heap.size w v l := by
  rcases open_slice Tryz.underlying60 h with ⟨hcs, _⟩ | ⟨a, len, cap, m, k, D, Pl, hcs, _, hlc, hcm, hm, rfl, hel⟩
  · simp at hcs; subst hcs; exact ⟨[], by simp, .inl ⟨rfl, rfl⟩⟩
  · simp at hcs; subst hcs
    obtain ⟨hb, _⟩ := hw.slice Tryz.underlying60
    rw [Tryz.bytesC] at hb
    unfold reachBytes at hb
    simp only [List.length_map, List.length_range] at hb
    have hml : len ≤ m := by rw [hm]; split <;> omega
    rw [Tryz.cellsC] at hel
    by_cases h0 : len = 0
    · subst h0; exact ⟨[], by simp, .inr (.inr ⟨a, cap, rfl, rfl⟩)⟩
    obtain ⟨f, hf⟩ := @choose_lt Ins ⟨⟨0, 0, 0, 0⟩⟩ len (fun i y => w.cells? 0 (a.add (i * 4)) 4 = some (cells4 y)) (fun i hi => by
      obtain ⟨cs', hc, ht⟩ := hel i (by omega)
      obtain ⟨y, rfl⟩ := instr_open ht
      exact ⟨y, hc⟩)
    obtain ⟨b, off, spot⟩ := a
    have hs : spot = none := by
      have := (World.cells?_some (hf 0 (by omega))).2.2 0 (by omega)
      simp [Addr.add] at this
      exact World.cell?_spot this
    subst hs
    have hcell : ∀ i, i < len → ∀ r v, (cells4 (f i))[r]? = some v → r < 4 → w.cell? ⟨b, off + i * 4 + r, none⟩ = some v := by
      intro i hi r v hv hr
      have := (World.cells?_some (hf i hi)).2.2 r hr
      rw [hv, Addr.add_lit, Addr.add_lit] at this
      exact this
    refine ⟨(List.range len).map f, by simp; omega, .inr (.inl ⟨b, off, cap, by simp, ?_, ?_⟩)⟩
    · exact lt_of_cell (hcell 0 (by omega) 0 _ rfl (by omega))
    · intro i y hy
      have hi : i < len := by simpa using (List.getElem?_eq_some_iff.1 hy).1
      have : y = f i := by simpa [hi] using hy.symm
      subst this
      exact ⟨hcell i hi 0 _ rfl (by omega), hcell i hi 1 _ rfl (by omega), hcell i hi 2 _ rfl (by omega), hcell i hi 3 _ rfl (by omega)⟩

set_option maxRecDepth 100000 in
theorem kinds_open {n : Nat} {v : Value} {x : DataW H × List MemPlace} (h : DataW.trod enc Tryz.prog w 0 spare held n 36 [v] = some x) (hw : WOK 36 x.1) : ∃ ks, KindsV w.heap.size w v ks := by
  rcases open_slice Tryz.underlying36 h with ⟨hcs, _⟩ | ⟨a, len, cap, m, k, D, Pl, hcs, _, hlc, hcm, hm, rfl, hel⟩
  · simp at hcs; subst hcs; exact ⟨[], by simp, .inl ⟨rfl, rfl⟩⟩
  · simp at hcs; subst hcs
    obtain ⟨hb, hwe⟩ := hw.slice Tryz.underlying36
    rw [Tryz.bytesK] at hb
    unfold reachBytes at hb
    simp only [List.length_map, List.length_range] at hb
    have hml : len ≤ m := by rw [hm]; split <;> omega
    rw [Tryz.cellsK] at hel
    by_cases h0 : len = 0
    · subst h0; exact ⟨[], by simp, .inr (.inr ⟨a, cap, rfl, rfl⟩)⟩
    obtain ⟨f, hf⟩ := @choose_lt (List Ins) ⟨[]⟩ len (fun i y => ∃ u, w.cell? (a.add i) = some u ∧ CodeV w.heap.size w u y) (fun i hi => by
      obtain ⟨cs', hc, ht⟩ := hel i (by omega)
      rw [Nat.mul_one] at hc
      obtain ⟨_, hl1, hg⟩ := World.cells?_some hc
      match cs', hl1 with
      | [u], _ =>
        obtain ⟨l, hl⟩ := code_open ht (hwe (D i) (by simp; exact ⟨i, hi, rfl⟩))
        exact ⟨l, u, by simpa [Addr.add] using hg 0 (by omega), hl⟩)
    obtain ⟨b, off, spot⟩ := a
    have hs : spot = none := by
      obtain ⟨u, hu, _⟩ := hf 0 (by omega)
      simp [Addr.add] at hu
      exact World.cell?_spot hu
    subst hs
    refine ⟨(List.range len).map f, by simp; omega, .inr (.inl ⟨b, off, cap, by simp, ?_, ?_⟩)⟩
    · obtain ⟨u, hu, _⟩ := hf 0 (by omega)
      rw [Addr.add_lit] at hu
      exact lt_of_cell hu
    · intro i y hy
      have hi : i < len := by simpa using (List.getElem?_eq_some_iff.1 hy).1
      have : y = f i := by simpa [hi] using hy.symm
      subst this
      obtain ⟨u, hu, hc⟩ := hf i hi
      rw [Addr.add_lit] at hu
      exact ⟨u, hu, hc⟩

set_option maxRecDepth 100000 in
theorem ints_open {n : Nat} {v : Value} {x : DataW H × List MemPlace} (h : DataW.trod enc Tryz.prog w 0 spare held n 24 [v] = some x) (hw : WOK 24 x.1) : ∃ l, IntsX w.heap.size w v l := by
  rcases open_slice Tryz.underlying24 h with ⟨hcs, _⟩ | ⟨a, len, cap, m, k, D, Pl, hcs, _, hlc, hcm, hm, rfl, hel⟩
  · simp at hcs; subst hcs; exact ⟨[], .inl ⟨by simp, .inl ⟨rfl, rfl⟩⟩⟩
  · simp at hcs; subst hcs
    obtain ⟨hb, hwe⟩ := hw.slice Tryz.underlying24
    rw [Tryz.bytesI] at hb
    unfold reachBytes at hb
    simp only [List.length_map, List.length_range] at hb
    have hml : len ≤ m := by rw [hm]; split <;> omega
    rw [Tryz.cellsI] at hel
    by_cases h0 : len = 0
    · subst h0; exact ⟨[], .inr ⟨a, cap, rfl, rfl⟩⟩
    obtain ⟨f, hf⟩ := @choose_lt Int ⟨0⟩ len (fun i y => w.cell? (a.add i) = some (.int .i64 y)) (fun i hi => by
      obtain ⟨cs', hc, ht⟩ := hel i (by omega)
      rw [Nat.mul_one] at hc
      obtain ⟨y, rfl, _, _⟩ := DataW.trod_int Tryz.underlying3 ht
      exact ⟨y, cell_of_cells?_one hc⟩)
    obtain ⟨b, off, spot⟩ := a
    have hs : spot = none := by
      have hu := hf 0 (by omega)
      simp [Addr.add] at hu
      exact World.cell?_spot hu
    subst hs
    have hrow : RowAt w b off (ints ((List.range len).map f)) := by
      intro j u hu
      have hj : j < len := by simpa [ints] using (List.getElem?_eq_some_iff.1 hu).1
      have : u = .int .i64 (f j) := by simpa [ints, hj] using hu.symm
      subst this
      have := hf j hj
      rw [Addr.add_lit] at this
      exact this
    refine ⟨(List.range len).map f, .inl ⟨by simp; omega, .inr ⟨b, off, cap, by simp, ?_, hrow⟩⟩⟩
    have := hf 0 (by omega)
    rw [Addr.add_lit] at this
    exact lt_of_cell this
end
end Go.Proofs.YtndlmgocldckfaaGreat

namespace Go.Proofs.YtndlmgocldckfaaGreat
open Go.ChangeShapes Go.WideShapes Go.ChangeAt Go.RowKit Go.Deep Go.Joins
set_option linter.unusedVariables false
set_option linter.unusedSimpArgs false

section
variable {H : Type} {enc : TypeId × Value → H} {w : World} {spare : Nat → Bool} {held : Bool}

theorem IntsX.one {B : Nat} {v : Value} {l : List Int} (h : IntsX B w v l) : v.oneCell' = true := by
  obtain ⟨a, c, rfl⟩ := h.form
  rfl
theorem KindsV.one {B : Nat} {v : Value} {ks : List (List Ins)} (h : KindsV B w v ks) : v.oneCell' = true := by
  obtain ⟨_, ⟨rfl, _⟩ | ⟨b, off, cap, rfl, _⟩ | ⟨a, c, rfl, _⟩⟩ := h <;> rfl

set_option maxRecDepth 100000 in
theorem agg_weights {t : TypeId} {fs : Array Field} {ds : List (DataW H)} (hu : Tryz.prog.underlying t = some (.struct fs)) (h : WOK t (.agg ds)) {j : Nat} {f : Field} {d : DataW H} (hf : fs[j]? = some f) (hd : ds[j]? = some d) : WOK f.type d := by
  intro n hn
  refine h n ?_
  have hW : (DataW.agg ds).weights Tryz.prog t = DataW.weightsEach Tryz.prog (fs.toList.map (·.type)) ds := by simp only [DataW.weights, hu]
  rw [hW]
  exact DataW.weights_mem_each (by simp [hf]) hd n hn

set_option maxRecDepth 100000 in
theorem slice_form {n : Nat} {v : Value} {x : DataW H × List MemPlace} (h : DataW.trod enc Tryz.prog w 0 spare held n 39 [v] = some x) : ∃ a n c, v = .slice a n c := by
  rcases open_slice Tryz.underlying39 h with ⟨hcs, _⟩ | ⟨a, len, cap, m, k, D, Pl, hcs, _⟩
  · simp at hcs; exact ⟨_, _, _, hcs⟩
  · simp at hcs; exact ⟨_, _, _, hcs⟩

set_option maxRecDepth 100000 in
theorem op_open {n : Nat} {cs : List Value} {x : DataW H × List MemPlace} (h : DataW.trod enc Tryz.prog w 0 spare held n 41 cs = some x) (hw : WOK 41 x.1) :
    ∃ o : OpD, cs = opCells o ∧ OpOK w.heap.size w o := by
  obtain ⟨xs, k, _, rfl, hl, hxl, hf⟩ := DataW.trod_struct Tryz.underlying41 h
  rw [Tryz.cellsO] at hl
  match xs, hxl with
  | [y0, y1, y2, y3, y4, y5, y6, y7, y8, y9], _ =>
    match cs, hl with
    | [c0, c1, c2, c3, c4, c5, c6, c7, c8, c9, c10], _ =>
      have f0 := hf 0 _ rfl
      have f1 := hf 1 _ rfl
      have f2 := hf 2 _ rfl
      have f3 := hf 3 _ rfl
      have f4 := hf 4 _ rfl
      have f5 := hf 5 _ rfl
      have f6 := hf 6 _ rfl
      have f7 := hf 7 _ rfl
      have f8 := hf 8 _ rfl
      have f9 := hf 9 _ rfl
      simp [Tryz.cellsI, Tryz.cellsM, Tryz.cellsIs, Tryz.cellsRs, Tryz.cellsS] at f0 f1 f2 f3 f4 f5 f6 f7 f8 f9
      clear hf
      have w5 : WOK 38 y5.1 := agg_weights Tryz.underlying41 hw (j := 5) rfl rfl
      have w6 : WOK 24 y6.1 := agg_weights Tryz.underlying41 hw (j := 6) rfl rfl
      obtain ⟨n0, e0, _, b0⟩ := DataW.trod_int Tryz.underlying3 f0
      obtain ⟨n1, e1, _, b1⟩ := DataW.trod_int Tryz.underlying3 f1
      obtain ⟨n2, e2, _, b2⟩ := DataW.trod_int Tryz.underlying3 f2
      obtain ⟨n3, e3, _, b3⟩ := DataW.trod_int Tryz.underlying3 f3
      obtain ⟨n4, e4, _, b4⟩ := DataW.trod_int Tryz.underlying3 f4
      obtain ⟨z0, z1, km, hz, hzl, g0, g1⟩ := trod_struct2 Tryz.underlying38 f5
      simp [Tryz.cellsI, Tryz.cellsKs] at g0 g1
      rw [hz] at w5
      have wk : WOK 36 z1.1 := agg_weights Tryz.underlying38 w5 (j := 1) rfl rfl
      obtain ⟨n5, e5, _, b5⟩ := DataW.trod_int Tryz.underlying3 g0
      obtain ⟨ks, hks⟩ := kinds_open g1 wk
      obtain ⟨ds, hds⟩ := ints_open f6 w6
      obtain ⟨s, es, _, _⟩ := DataW.trod_string Tryz.underlying9 f9
      simp at e0 e1 e2 e3 e4 e5 es
      subst e0 e1 e2 e3 e4 e5 es
      have := bounds_i64 b1
      exact ⟨⟨n0, n1, n2, n3, n4, n5, c6, c7, c8, c9, .string s, ks, ds⟩, rfl, hks, hds, this.1, this.2, slice_form f7, slice_form f8, ⟨s, rfl⟩⟩

theorem opCells_one {B : Nat} {o : OpD} (h : OpOK B w o) : ∀ u ∈ opCells o, u.oneCell' = true := by
  obtain ⟨hk, hd, _, _, ⟨_, _, _, hr⟩, ⟨_, _, _, hq⟩, ⟨_, hs⟩⟩ := h
  intro u hu
  simp only [opCells, List.mem_cons, List.not_mem_nil, or_false] at hu
  rcases hu with rfl | rfl | rfl | rfl | rfl | rfl | rfl | rfl | rfl | rfl | rfl
  · rfl
  · rfl
  · rfl
  · rfl
  · rfl
  · rfl
  · exact hk.one
  · exact hd.one
  · rw [hr]; rfl
  · rw [hq]; rfl
  · rw [hs]; rfl

theorem rangeOps (f : Nat → OpD) : ∀ n : Nat, ∀ (i r : Nat) (v : Value), r < 11 → (opsRow ((List.range n).map f))[i * 11 + r]? = some v → i < n ∧ (opCells (f i))[r]? = some v := by
  intro n i r v hr hv
  rw [opsRow_get _ _ _ hr] at hv
  by_cases hi : i < n
  · simp [hi] at hv; exact ⟨hi, hv⟩
  · rw [List.getElem?_eq_none (by simp; omega)] at hv; cases hv

set_option maxRecDepth 100000 in
theorem script_open {n : Nat} {v : Value} {x : DataW H × List MemPlace} (h : DataW.trod enc Tryz.prog w 0 spare held n 22 [v] = some x) (hw : WOK 22 x.1) :
    ∃ os : List OpD, SrcAt w v os.length (opsRow os) ∧ (∀ o ∈ os, OpOK w.heap.size w o) ∧ (∀ u ∈ opsRow os, u.oneCell' = true) ∧ (os.length + 11) * 160 ≤ 140737488355328 := by
  rcases open_slice Tryz.underlying22 h with ⟨hcs, _⟩ | ⟨a, len, cap, m, k, D, Pl, hcs, _, hlc, hcm, hm, rfl, hel⟩
  · simp at hcs; subst hcs; exact ⟨[], .inl ⟨rfl, rfl, rfl⟩, by simp, by simp [opsRow], by decide⟩
  · simp at hcs; subst hcs
    obtain ⟨hb, hwe⟩ := hw.slice Tryz.underlying22
    rw [Tryz.bytesO] at hb
    unfold reachBytes at hb
    simp only [List.length_map, List.length_range] at hb
    have hml : len ≤ m := by rw [hm]; split <;> omega
    rw [Tryz.cellsO] at hel
    by_cases h0 : len = 0
    · subst h0; exact ⟨[], .inr (.inr ⟨a, cap, rfl, rfl⟩), by simp, by simp [opsRow], by decide⟩
    obtain ⟨f, hf⟩ := @choose_lt OpD ⟨⟨0, 0, 0, 0, 0, 0, .bool true, .bool true, .bool true, .bool true, .bool true, [], []⟩⟩ len (fun i y => w.cells? 0 (a.add (i * 11)) 11 = some (opCells y) ∧ OpOK w.heap.size w y) (fun i hi => by
      obtain ⟨cs', hc, ht⟩ := hel i (by omega)
      obtain ⟨y, rfl, hy⟩ := op_open ht (hwe (D i) (by simp; exact ⟨i, hi, rfl⟩))
      exact ⟨y, hc, hy⟩)
    obtain ⟨b, off, spot⟩ := a
    have hs : spot = none := by
      have := (World.cells?_some (hf 0 (by omega)).1).2.2 0 (by omega)
      simp [Addr.add] at this
      exact World.cell?_spot this
    subst hs
    have hokm : ∀ o ∈ (List.range len).map f, OpOK w.heap.size w o := by
      intro o ho
      obtain ⟨i, hi, rfl⟩ := List.mem_map.1 ho
      exact (hf i (List.mem_range.1 hi)).2
    refine ⟨(List.range len).map f, .inr (.inl ⟨b, off, cap, by simp, ?_⟩), hokm, ?_, by simp; omega⟩
    · intro j v hv
      have hj : j = (j / 11) * 11 + j % 11 := by omega
      rw [hj] at hv
      obtain ⟨hi, hc⟩ := rangeOps f len (j / 11) (j % 11) v (by omega) hv
      have := (World.cells?_some (hf (j / 11) hi).1).2.2 (j % 11) (by omega)
      rw [hc, Addr.add_lit, Addr.add_lit] at this
      rw [← this]
      congr 2
      omega
    · intro u hu
      obtain ⟨o, ho, hu⟩ := List.mem_flatMap.1 hu
      exact opCells_one (hokm o ho) u hu
end
end Go.Proofs.YtndlmgocldckfaaGreat
