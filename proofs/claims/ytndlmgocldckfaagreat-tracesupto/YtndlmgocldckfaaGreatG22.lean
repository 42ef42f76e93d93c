import Derived.Test.YtndlmgocldckfaaGreatG11
import Derived.Test.YtndlmgocldckfaaGreatG12
import Derived.Test.YtndlmgocldckfaaGreatG10
import Derived.Test.YtndlmgocldckfaaGreatG09
namespace Go.Proofs.YtndlmgocldckfaaGreat
open Go.RowKit
set_option linter.unusedVariables false
set_option linter.unusedSimpArgs false
set_option maxRecDepth 100000
set_option maxHeartbeats 4000000
theorem written_compare {base : Nat} (wb : Nat) (lv : Value) (ps : List Pair) (bk : BookD) (a b c d ents : Int) (kv l rv qv sv : Value) (rs qs : List Rec) (w : World) (h : Inv base w wb lv ps bk) (hr : RecsX base w rv rs) (hq : RecsX base w qv qs) (hb0 : 0 < base) :
  Calls Tryz.prog 16 #[.pointer (some ⟨wb, 0, none⟩), .agg #[.int .i64 12, .int .i64 a, .int .i64 b, .int .i64 c, .int .i64 d, .int .i64 ents, kv, l, rv, qv, sv]] w
   fun e w' => e = .returned (.bool true) ∧ Below w.heap.size w w' := by
 have hbl := h.lo
 obtain ⟨W, hW⟩ : ∃ W, W = w.alloc (.cells #[.int .i64 12, .int .i64 a, .int .i64 b, .int .i64 c, .int .i64 d, .int .i64 ents, kv, l, rv, qv, sv] 41) := ⟨_, rfl⟩
 have hb : Below w.heap.size w W := by rw [hW]; exact (Below.refl _ _).alloc (Nat.le_refl _) _
 have hWs : W.heap.size = w.heap.size + 1 := by rw [hW]; simp
 have hop : OpAt W w.heap.size 12 b rv qv sv := by rw [hW]; exact OpAt.new _ _ _ _ _ _ _ _ _ _ _ _ _
 obtain ⟨ra, rc, rfl, _⟩ := hr.recIn
 obtain ⟨qa, qc, rfl, _⟩ := hq.recIn
 have HR : Hid (∀ W', Below w.heap.size w W' → RecsX base W' (.slice ra rs.length rc) rs) := fun W' hb' => hr.below (hb'.mono hbl)
 have HQ : Hid (∀ W', Below w.heap.size w W' → RecsX base W' (.slice qa qs.length qc) qs) := fun W' hb' => hq.below (hb'.mono hbl)
 have Hl1 : Hid (rs.length ≤ 1000000000000000 ∧ qs.length ≤ 1000000000000000 ∧ ∀ r ∈ rs, r.told.length ≤ 1000000000000000) := ⟨by have := hr.1; omega, by have := hq.1; omega, fun r hm => by have := hr.toldLen r hm; omega⟩
 have c0 := hop.c0
 have c8 := hop.c8
 have HW := hide hW
 have HO := hide hop
 have HL := hide (lentRecords_any _ rs W (HR.out W hb) (by omega) hb0)
 have HB := hide hb
 clear hr hq hop hW hb
 go_enter Tryz.func16, Tryz.ntmps16
 go_wp2_with fail
 rw [← HW.out]
 go_wp2_with fail
 refine HL.out.mono ?_
 rintro e w1 ⟨sa, sc, ma, mn, mc, rfl, hb1, hQ1⟩
 have hz1 := hb1.size
 have HB1 : Hid (Below w.heap.size w w1) := HB.out.trans (hb1.mono (by omega))
 have HO1 := hide (HO.out.below hb1 (by omega))
 have c0 := HO1.out.c0
 have c9 := HO1.out.c9
 have HQ1 := hide hQ1
 have HL2 := hide (lentRecords_any _ qs w1 (HQ.out w1 HB1.out) (by omega) hb0)
 clear hQ1 hb1 HL c8 HO
 go_wp2_with fail
 refine HL2.out.mono ?_
 rintro e w2 ⟨ta, tc, na, nn, nc, rfl, hb2, hQ2⟩
 have hz2 := hb2.size
 have HB2 : Hid (Below w.heap.size w w2) := HB1.out.trans (hb2.mono (by omega))
 have HO2 := hide (HO1.out.below hb2 (by omega))
 have c8 := HO2.out.c8
 have c9 := HO2.out.c9
 have HQ12 := hide (HQ1.out.below hb2)
 have HQ2 := hide hQ2
 obtain ⟨_, _, e1, hi1⟩ := HQ12.out.recIn
 obtain ⟨_, _, e2, hi2⟩ := HQ2.out.recIn
 cases e1
 cases e2
 have HC := hide (compare_any sa ta sc tc rs qs w2 hi1 hi2 Hl1.out.1 Hl1.out.2.1 Hl1.out.2.2)
 clear hQ2 hb2 HL2 hi1 hi2 HQ1 HO1 c0
 go_wp2_with fail
 refine HC.out.mono ?_
 rintro e w3 ⟨rfl, hb3⟩
 have hz3 := hb3.size
 have HB3 : Hid (Below w.heap.size w w3) := HB2.out.trans (hb3.mono (by omega))
 have HO3 := hide (HO2.out.below hb3 (by omega))
 have c8 := HO3.out.c8
 have c9 := HO3.out.c9
 have HQ13 := hide (HQ12.out.below hb3)
 have HQ23 := hide (HQ2.out.below hb3)
 have HC2 : Hid (∀ W', Below w3.heap.size w3 W' → Calls Tryz.prog 43 #[.slice ra rs.length rc, .slice qa qs.length qc] W' fun e w' => e = .returned (.int .i64 (cmpF 0 rs qs)) ∧ Below W'.heap.size W' w') := by
  intro W' hb'
  have hb4 := HB3.out.trans (hb'.mono (by omega))
  obtain ⟨_, _, e1, hi1⟩ := (HR.out W' hb4).recIn
  obtain ⟨_, _, e2, hi2⟩ := (HQ.out W' hb4).recIn
  cases e1
  cases e2
  exact rcompare_any ra qa rc qc rs qs W' hi1 hi2 Hl1.out.1 Hl1.out.2.1 Hl1.out.2.2
 clear hb3 HC HQ12 HQ2 HO2
 go_wp2_with fail
 refine (HC2.out w3 (Below.refl _ _)).mono ?_
 rintro e w4 ⟨rfl, hb4⟩
 have hz4 := hb4.size
 have HB4 : Hid (Below w.heap.size w w4) := HB3.out.trans (hb4.mono (by omega))
 have HO4 := hide (HO3.out.below hb4 (by omega))
 have c8 := HO4.out.c8
 have HQ14 := hide (HQ13.out.below hb4)
 have HQ24 := hide (HQ23.out.below hb4)
 have HX := hide (wholeRecords_any _ _ _ rs w4 HQ14.out)
 generalize cmpF 0 rs qs = z
 clear hb4 HC2 HQ13 HQ23 HO3 c9
 go_wp2_with fail
 refine HX.out.mono ?_
 rintro e w5 ⟨rfl, ho5⟩
 have hz5 := ho5.size
 have HB5 : Hid (Below w.heap.size w w5) := HB4.out.trans (ho5.below (by omega) (fun k hk hc => by omega))
 have c9 : w5.cell? ⟨w.heap.size, 9, none⟩ = some (.slice qa qs.length qc) := ho5.at HO4.out.c9 (by omega)
 have HQ25 := hide (HQ24.out.only ho5 (fun y hy => by omega))
 have HX2 := hide (wholeRecords_any _ _ _ qs w5 HQ25.out)
 clear ho5 HX HQ14 HQ24 HO4 c8
 go_wp2_with fail
 refine HX2.out.mono ?_
 rintro e w6 ⟨rfl, ho6⟩
 have HB6 : Hid (Below w.heap.size w w6) := HB5.out.trans (ho6.below (by omega) (fun k hk hc => by omega))
 have dz : (z == z) = true := by simp
 clear ho6 HX2
 go_wp2_with fail
 go_ret
 exact ⟨by simp, HB6.out⟩
def ownKs : List (List Ins) := [[⟨2, 0, 1, 0⟩, ⟨8, 0, 0, 0⟩, ⟨6, 0, 0, 2⟩], [⟨1, 1, 5, 0⟩, ⟨4, 2, 4, 0⟩, ⟨6, 0, 0, 2⟩, ⟨5, 3, 1, 0⟩, ⟨7, 3, 0, 0⟩, ⟨6, 0, 0, 1⟩]]
theorem rowAt_alloc (W : World) (cs : List Value) (T : TypeId) : RowAt (W.alloc (.cells cs.toArray T)) W.heap.size 0 cs := by
 intro j v hv
 rw [Nat.zero_add, World.cell?_alloc_at _ _ _ _ rfl]
 simpa using hv
theorem kinds_laid (W : World) (T1 T2 : TypeId) : KindsIn (fun b => W.heap.size ≤ b ∧ b < W.heap.size + 3) (((W.alloc (.cells (flat ownKs[0]).toArray T1)).alloc (.cells (flat ownKs[1]).toArray T1)).alloc (.cells #[.slice (some ⟨W.heap.size, 0, none⟩) 3 3, .slice (some ⟨W.heap.size + 1, 0, none⟩) 6 6] T2)) (.slice (some ⟨W.heap.size + 1 + 1, 0, none⟩) 2 2) ownKs := by
 obtain ⟨W1, hW1⟩ : ∃ W1, W1 = W.alloc (.cells (flat ownKs[0]).toArray T1) := ⟨_, rfl⟩
 obtain ⟨W2, hW2⟩ : ∃ W2, W2 = W1.alloc (.cells (flat ownKs[1]).toArray T1) := ⟨_, rfl⟩
 obtain ⟨W3, hW3⟩ : ∃ W3, W3 = W2.alloc (.cells #[.slice (some ⟨W.heap.size, 0, none⟩) 3 3, .slice (some ⟨W.heap.size + 1, 0, none⟩) 6 6] T2) := ⟨_, rfl⟩
 have s1 : W1.heap.size = W.heap.size + 1 := by rw [hW1]; simp
 have s2 : W2.heap.size = W.heap.size + 1 + 1 := by rw [hW2]; simp [s1]
 have b2 : Below W1.heap.size W1 W2 := by rw [hW2]; exact (Below.refl _ _).alloc (Nat.le_refl _) _
 have b3 : Below W2.heap.size W2 W3 := by rw [hW3]; exact (Below.refl _ _).alloc (Nat.le_refl _) _
 have r0 : CodeAt W3 W.heap.size 0 ownKs[0] := by
  have := rowAt_alloc W (flat ownKs[0]) T1
  rw [← hW1] at this
  exact (this.code.below b2 (by omega)).below b3 (by omega)
 have r1 : CodeAt W3 (W.heap.size + 1) 0 ownKs[1] := by
  have := rowAt_alloc W1 (flat ownKs[1]) T1
  rw [← hW2, s1] at this
  exact this.code.below b3 (by omega)
 have rk := rowAt_alloc W2 [.slice (some ⟨W.heap.size, 0, none⟩) 3 3, .slice (some ⟨W.heap.size + 1, 0, none⟩) 6 6] T2
 rw [s2] at rk
 rw [← hW1, ← hW2, ← hW3]
 refine ⟨by decide, .inr ⟨W.heap.size + 1 + 1, 0, 2, rfl, by omega, ?_⟩⟩
 intro i l hl
 have hi : i < 2 := by simpa [ownKs] using (List.getElem?_eq_some_iff.1 hl).1
 have : i = 0 ∨ i = 1 := by omega
 rcases this with rfl | rfl
 ·have : l = ownKs[0] := by simpa [ownKs] using hl.symm
  subst this
  exact ⟨.slice (some ⟨W.heap.size, 0, none⟩) 3 3, by rw [hW3]; exact rk 0 _ rfl, by simp [ownKs], .inr ⟨W.heap.size, 0, 3, rfl, by omega, r0⟩⟩
 ·have : l = ownKs[1] := by simpa [ownKs] using hl.symm
  subst this
  exact ⟨.slice (some ⟨W.heap.size + 1, 0, none⟩) 6 6, by rw [hW3]; exact rk 1 _ rfl, by simp [ownKs], .inr ⟨W.heap.size + 1, 0, 6, rfl, by omega, r1⟩⟩
theorem own_any (w : World) : Calls Tryz.prog 14 #[] w fun e w' => ∃ sa sc, e = .returned (.agg #[.int .i64 2, .slice sa 2 sc]) ∧ Below w.heap.size w w' ∧ KindsIn (fun b => w.heap.size ≤ b ∧ b < w'.heap.size) w' (.slice sa 2 sc) ownKs := by
 go_enter Tryz.func14, Tryz.ntmps14
 go_wp2
 obtain ⟨W, hW⟩ : ∃ W, W = w.alloc (.cells #[.int .i64 2, .slice (some ⟨w.heap.size + 1 + 1 + 1, 0, none⟩) 2 2] 38) := ⟨_, rfl⟩
 have hWs : W.heap.size = w.heap.size + 1 := by rw [hW]; simp
 have hk := kinds_laid W 59 60
 have e0 : (flat ownKs[0]).toArray = #[.int .i64 2, .int .i64 0, .int .i64 1, .int .i64 0, .int .i64 8, .int .i64 0, .int .i64 0, .int .i64 0, .int .i64 6, .int .i64 0, .int .i64 0, .int .i64 2] := rfl
 have e1 : (flat ownKs[1]).toArray = #[.int .i64 1, .int .i64 1, .int .i64 5, .int .i64 0, .int .i64 4, .int .i64 2, .int .i64 4, .int .i64 0, .int .i64 6, .int .i64 0, .int .i64 0, .int .i64 2, .int .i64 5, .int .i64 3, .int .i64 1, .int .i64 0, .int .i64 7, .int .i64 3, .int .i64 0, .int .i64 0, .int .i64 6, .int .i64 0, .int .i64 0, .int .i64 1] := rfl
 rw [e0, e1, hWs] at hk
 rw [← hW]
 refine bodyPost_ret (v := .agg #[.int .i64 2, .slice (some ⟨w.heap.size + 1 + 1 + 1, 0, none⟩) 2 2]) (by rw [hW]; simp [results, Tryz.results14, go_sem]) rfl ⟨_, _, rfl, ?_, hk.mono ?_⟩
 ·have hb0 : Below w.heap.size w W := by rw [hW]; exact (Below.refl _ _).alloc (Nat.le_refl _) _
  exact ((hb0.alloc (by omega) _).alloc (by simp; omega) _).alloc (by simp; omega) _
 ·intro b hb
  simp [hWs]
  omega
def mkOp (kind a b c d ents : Int) (kv l rv qv sv : Value) (ks : List (List Ins)) (draws : List Int) : OpD := ⟨kind, a, b, c, d, ents, kv, l, rv, qv, sv, ks, draws⟩
def noS : Value := .slice none 0 0
def noT : Value := .string ⟨#[]⟩
def firstOps (k1 k2 dv r : Value) : List OpD :=
 [mkOp 1 0 0 0 0 2 k1 noS noS noS noT ownKs [], mkOp 2 0 0 0 0 2 k2 dv noS noS noT ownKs [7, 9], mkOp 3 0 10 1 0 0 noS noS noS noS noT [] [], mkOp 4 0 3 100 0 0 noS noS noS noS noT [] [], mkOp 5 0 0 0 0 0 noS noS noS noS noT [] [],
  mkOp 6 0 0 2 0 0 noS noS noS noS noT [] [], mkOp 7 0 0 0 0 0 noS noS noS noS noT [] [], mkOp 9 0 0 0 0 0 noS noS noS noS noT [] [], mkOp 10 0 0 0 0 0 noS noS r noS noT [] [], mkOp 11 0 0 0 0 0 noS noS noS noS (.string ⟨#[84, 77, 82, 1, 0]⟩) [] [],
  mkOp 12 0 0 0 0 0 noS noS r noS noT [] []]
def opsRow (os : List OpD) : List Value := os.flatMap opCells
theorem opsRow_one (os : List OpD) (h : ∀ o ∈ os, o.kv.oneCell' = true ∧ o.l.oneCell' = true ∧ o.rv.oneCell' = true ∧ o.qv.oneCell' = true ∧ o.sv.oneCell' = true) : ∀ u ∈ opsRow os, u.oneCell' = true := by
 intro u hu
 obtain ⟨o, ho, hu⟩ := List.mem_flatMap.1 hu
 obtain ⟨h1, h2, h3, h4, h5⟩ := h o ho
 simp only [opCells, List.mem_cons, List.not_mem_nil, or_false] at hu
 rcases hu with rfl | rfl | rfl | rfl | rfl | rfl | rfl | rfl | rfl | rfl | rfl
 ·rfl
 ·rfl
 ·rfl
 ·rfl
 ·rfl
 ·rfl
 ·exact h1
 ·exact h2
 ·exact h3
 ·exact h4
 ·exact h5
theorem noKinds (B : Nat) (W : World) : KindsV B W noS [] := ⟨by simp, .inl ⟨rfl, rfl⟩⟩
theorem noDraws (B : Nat) (W : World) : IntsX B W noS [] := .inl ⟨by simp, .inl ⟨rfl, rfl⟩⟩
theorem first_ok {w1 w2 : World} {lo1 lo2 : Nat} {k1 k2 r : Value} (hr : ∃ a n c, r = .slice a n c) (hz2 : w1.heap.size ≤ w2.heap.size) (hk1 : KindsIn (fun b => lo1 ≤ b ∧ b < w1.heap.size) w2 k1 ownKs) (hk2 : KindsIn (fun b => lo2 ≤ b ∧ b < w2.heap.size) w2 k2 ownKs) (o : Obj) :
  ∀ x ∈ firstOps k1 k2 (.slice (some ⟨w2.heap.size, 0, none⟩) 2 2) r, OpOK (w2.heap.size + 1) ((w2.alloc (.cells #[.int .i64 7, .int .i64 9] 3)).alloc o) x := by
 have hb := (Below.refl w2.heap.size w2).alloc (Nat.le_refl _) (.cells #[.int .i64 7, .int .i64 9] 3)
 have hb' := (Below.refl (w2.heap.size + 1) (w2.alloc (.cells #[.int .i64 7, .int .i64 9] 3))).alloc (by simp) o
 have hbb := hb.trans (hb'.mono (by omega))
 have n := noKinds (w2.heap.size + 1) ((w2.alloc (.cells #[.int .i64 7, .int .i64 9] 3)).alloc o)
 have m := noDraws (w2.heap.size + 1) ((w2.alloc (.cells #[.int .i64 7, .int .i64 9] 3)).alloc o)
 have a1 := (hk1.only (Only.new (S := fun _ => False) hbb) (by simp)).toV (B := w2.heap.size + 1) (by intro b hb; omega)
 have a2 := (hk2.only (Only.new (S := fun _ => False) hbb) (by simp)).toV (B := w2.heap.size + 1) (by intro b hb; omega)
 have d2 : IntsX (w2.heap.size + 1) ((w2.alloc (.cells #[.int .i64 7, .int .i64 9] 3)).alloc o) (.slice (some ⟨w2.heap.size, 0, none⟩) 2 2) [7, 9] := by
  refine .inl ⟨by simp, .inr ⟨w2.heap.size, 0, 2, rfl, by omega, ?_⟩⟩
  exact (rowAt_alloc w2 [.int .i64 7, .int .i64 9] 3).below hb' (by omega)
 intro x hx
 simp only [firstOps, List.mem_cons, List.not_mem_nil, or_false] at hx
 rcases hx with rfl | rfl | rfl | rfl | rfl | rfl | rfl | rfl | rfl | rfl | rfl
 ·exact ⟨a1, m, by simp [mkOp], by simp [mkOp], ⟨_, _, _, rfl⟩, ⟨_, _, _, rfl⟩, ⟨_, rfl⟩⟩
 ·exact ⟨a2, d2, by simp [mkOp], by simp [mkOp], ⟨_, _, _, rfl⟩, ⟨_, _, _, rfl⟩, ⟨_, rfl⟩⟩
 all_goals first | exact ⟨n, m, by simp [mkOp], by simp [mkOp], ⟨_, _, _, rfl⟩, ⟨_, _, _, rfl⟩, ⟨_, rfl⟩⟩ | exact ⟨n, m, by simp [mkOp], by simp [mkOp], hr, ⟨_, _, _, rfl⟩, ⟨_, rfl⟩⟩
def FirstR (g : Nat) (w : World) (r : Value) : Prop :=
 ∃ rb tb, r = .slice (some ⟨rb, 0, none⟩) 1 1 ∧ rb < g ∧ tb < g ∧ RowAt w rb 0 [.int .i64 1, .int .i64 10, .int .i64 1, .int .i64 0, .slice (some ⟨tb, 0, none⟩) 1 1] ∧ RowAt w tb 0 [.int .i64 (-3)]
theorem first_rec (w : World) : FirstR (w.heap.size + 1 + 1) ((w.alloc (.cells #[.int .i64 (-3)] 3)).alloc (.cells #[.int .i64 1, .int .i64 10, .int .i64 1, .int .i64 0, .slice (some ⟨w.heap.size, 0, none⟩) 1 1] 46)) (.slice (some ⟨w.heap.size + 1, 0, none⟩) 1 1) := by
 have h1 := rowAt_alloc w [.int .i64 (-3)] 3
 have h2 := rowAt_alloc (w.alloc (.cells #[.int .i64 (-3)] 3)) [.int .i64 1, .int .i64 10, .int .i64 1, .int .i64 0, .slice (some ⟨w.heap.size, 0, none⟩) 1 1] 46
 rw [World.size_alloc] at h2
 have hb := (Below.refl (w.heap.size + 1) (w.alloc (.cells #[.int .i64 (-3)] 3))).alloc (by simp) (.cells #[.int .i64 1, .int .i64 10, .int .i64 1, .int .i64 0, .slice (some ⟨w.heap.size, 0, none⟩) 1 1] 46)
 exact ⟨_, _, rfl, by omega, by omega, h2, h1.below hb (by omega)⟩
theorem FirstR.below {g : Nat} {w w' : World} {r : Value} (h : FirstR g w r) (hb : Below g w w') : FirstR g w' r := by
 obtain ⟨rb, tb, rfl, h1, h2, h3, h4⟩ := h
 exact ⟨rb, tb, rfl, h1, h2, h3.below hb h1, h4.below hb h2⟩
theorem FirstR.mono {g g' : Nat} {w : World} {r : Value} (h : FirstR g w r) (hg : g ≤ g') : FirstR g' w r := by
 obtain ⟨rb, tb, rfl, h1, h2, h3, h4⟩ := h
 exact ⟨rb, tb, rfl, by omega, by omega, h3, h4⟩
theorem first_any (w : World) : Calls Tryz.prog 9 #[] w fun e w' => ∃ g os, e = .returned (.slice (some ⟨g, 0, none⟩) 11 11) ∧ Below w.heap.size w w' ∧ w.heap.size ≤ g ∧ os.length = 11 ∧
  (∃ cur, w'.heap[g]? = some (.cells cur 41 (0, 0)) ∧ cur.toList = opsRow os) ∧ g < w'.heap.size ∧ (∀ o ∈ os, OpOK g w' o) ∧ (∀ u ∈ opsRow os, u.oneCell' = true) ∧ ∃ k1 k2 dv r, os = firstOps k1 k2 dv r ∧ FirstR g w' r := by
 have HF := hide (first_rec w)
 go_enter Tryz.func9, Tryz.ntmps9
 go_wp2_with fail
 refine (own_any _).mono ?_
 rintro e w1 ⟨sa1, sc1, rfl, hb1, hk1⟩
 go_wp2_with fail
 refine (own_any _).mono ?_
 rintro e w2 ⟨sa2, sc2, rfl, hb2, hk2⟩
 have hz1 := hb1.size
 have hz2 := hb2.size
 simp only [World.size_alloc] at hz1
 have hB : Below w.heap.size w w2 := ((((Below.refl w.heap.size w).alloc (Nat.le_refl _) (.cells #[.int .i64 (-3)] 3)).alloc (by simp) (.cells #[.int .i64 1, .int .i64 10, .int .i64 1, .int .i64 0, .slice (some ⟨w.heap.size, 0, none⟩) 1 1] 46)).trans (hb1.mono (by simp; omega))).trans (hb2.mono (by omega))
 have HB := hide hB
 have HF2 : Hid (FirstR (w.heap.size + 1 + 1) w2 (.slice (some ⟨w.heap.size + 1, 0, none⟩) 1 1)) := (HF.out.below (hb1.mono (by simp))).below (hb2.mono (by omega))
 have Hk1 := hide (KindsIn.only hk1 (Only.new (S := fun _ => False) hb2) (by simp))
 have Hk2 := hide hk2
 clear hk1 hk2 hB hb1
 go_wp2
 go_ret
 refine ⟨w2.heap.size + 1, firstOps (.slice sa1 2 sc1) (.slice sa2 2 sc2) (.slice (some ⟨w2.heap.size, 0, none⟩) 2 2) (.slice (some ⟨w.heap.size + 1, 0, none⟩) 1 1), by simp, ?_, by omega, rfl, ⟨_, ?_, rfl⟩, by simp, ?_, ?_, _, _, _, _, rfl, ?_⟩
 ·exact (HB.out.alloc (by omega) _).alloc (by simp; omega) _
 ·have := heap_new (w2.alloc (.cells #[.int .i64 7, .int .i64 9] 3)) (.cells (opsRow (firstOps (.slice sa1 2 sc1) (.slice sa2 2 sc2) (.slice (some ⟨w2.heap.size, 0, none⟩) 2 2) (.slice (some ⟨w.heap.size + 1, 0, none⟩) 1 1))).toArray 41)
  rw [World.size_alloc] at this
  exact this
 ·exact first_ok ⟨_, _, _, rfl⟩ hz2 Hk1.out Hk2.out _
 ·refine opsRow_one _ ?_
  intro o ho
  simp only [firstOps, List.mem_cons, List.not_mem_nil, or_false] at ho
  rcases ho with rfl | rfl | rfl | rfl | rfl | rfl | rfl | rfl | rfl | rfl | rfl <;> exact ⟨rfl, rfl, rfl, rfl, rfl⟩
 ·refine (HF2.out.below ?_).mono (by omega)
  exact ((Below.refl _ _).alloc (by omega) _).alloc (by simp; omega) _
end Go.Proofs.YtndlmgocldckfaaGreat
