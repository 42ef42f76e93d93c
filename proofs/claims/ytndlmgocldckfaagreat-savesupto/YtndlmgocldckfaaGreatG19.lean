import Derived.Test.YtndlmgocldckfaaGreatG18
import Derived.Test.YtndlmgocldckfaaGreatG02
import Derived.Test.YtndlmgocldckfaaGreatG16
import Derived.Test.YtndlmgocldckfaaGreatG08
import Derived.Test.YtndlmgocldckfaaGreatG11
import Derived.Test.YtndlmgocldckfaaGreatG12
namespace Go.Proofs.YtndlmgocldckfaaGreat
open Go.RowKit
set_option linter.unusedVariables false
set_option linter.unusedSimpArgs false
set_option maxRecDepth 100000
set_option maxHeartbeats 4000000
theorem lentL_code {w : World} {c : Nat} {l : List Ins} (h : CodeAt w c 0 (lentL l)) : CodeAt w c 0 l := by
 intro i x hx
 have hi : i < l.length := (List.getElem?_eq_some_iff.1 hx).1
 refine h i x ?_
 rw [lentL_elem l i hi]
 rw [List.getElem?_eq_getElem hi] at hx
 exact hx
theorem LentTo.kinds {lo hi : Nat} {w : World} {g h b off : Nat} {rs : List (Option Nat)} {ks : List (List Ins)} (x : LentTo lo hi w g h b off ks.length rs ks) : KindsAt w.heap.size w g 0 ks := by
 intro i l hl
 have hi : i < ks.length := (List.getElem?_eq_some_iff.1 hl).1
 have hr : rs[i]? = some (rs[i]'(by rw [x.len]; exact hi)) := by simp [x.len, hi]
 generalize rs[i]'(by rw [x.len]; exact hi) = r at hr
 obtain ⟨h1, _⟩ := x.row i r l hr hl
 obtain ⟨v, _, hv, _⟩ := x.orig i l hl
 refine ⟨_, by rw [Nat.zero_add]; exact h1, hv.1, ?_⟩
 cases r with
 | none => exact .inl ⟨rfl, x.none_ i l hr hl⟩
 | some c =>
  obtain ⟨c1, c2, c3, c4, c5, c6⟩ := x.code i c l hr hl
  exact .inr (.inl ⟨c, 0, l.length + 8, rfl, c4, lentL_code c1⟩)
theorem kindsV_gen {B : Nat} {w : World} {ka : Addr} {kb koff kcap : Nat} {ks : List (List Ins)} (hka : 0 < ks.length → ka = ⟨kb, koff, none⟩) (hkl : ks.length ≤ 5864062014805) (hkb : kb < B) (hK : KindsAt B w kb koff ks) : KindsV B w (.slice (some ka) ks.length kcap) ks := by
 by_cases h0 : 0 < ks.length
 ·rw [hka h0]; exact ⟨hkl, .inr (.inl ⟨kb, koff, kcap, rfl, hkb, hK⟩)⟩
 ·have : ks = [] := List.eq_nil_of_length_eq_zero (by omega)
  subst this
  exact ⟨by simp, .inr (.inr ⟨ka, kcap, rfl, rfl⟩)⟩
theorem lentI_row {w : World} {g : Nat} {l : List Int} (h : RowAt w g 0 (lentI l)) : RowAt w g 0 (ints l) := by
 intro j v hv
 refine h j v ?_
 have hj : j < (ints l).length := (List.getElem?_eq_some_iff.1 hv).1
 rw [lentI, List.getElem?_append_left hj]; exact hv
def LentV (lo : Nat) (w : World) (v : Value) (sa : Option Addr) (sc : Nat) (l : List Int) : Prop :=
 (v = .slice none 0 0 ∧ sa = none ∧ sc = 0 ∧ l = []) ∨ ∃ g, sa = some ⟨g, 0, none⟩ ∧ sc = l.length + 8 ∧ v ≠ .slice none 0 0 ∧ lo ≤ g ∧ g < w.heap.size ∧ RowAt w g 0 (lentI l) ∧ Room w g (l.length + 8)
def IntsX (B : Nat) (w : World) (v : Value) (l : List Int) : Prop := IntsIn (· < B) w v l ∨ ∃ a cap, v = .slice (some a) 0 cap ∧ l = []
theorem IntsX.form {B : Nat} {w : World} {v : Value} {l : List Int} (h : IntsX B w v l) : ∃ sa sc, v = .slice sa l.length sc := by
 rcases h with h | ⟨a, c, rfl, rfl⟩
 ·exact h.form
 ·exact ⟨_, _, rfl⟩
theorem IntsX.len {B : Nat} {w : World} {v : Value} {l : List Int} (h : IntsX B w v l) : l.length ≤ 17592186044416 := by
 rcases h with h | ⟨a, c, rfl, rfl⟩
 ·exact h.1
 ·simp
theorem IntsX.below {B : Nat} {w w' : World} {v : Value} {l : List Int} (h : IntsX B w v l) (hb : Below B w w') : IntsX B w' v l := by
 rcases h with h | h
 ·exact .inl (h.only (Only.ofBelow (S := (B ≤ ·)) hb (fun k h _ => h)) (fun b hb => by omega))
 ·exact .inr h
theorem IntsX.mono {B B' : Nat} {w : World} {v : Value} {l : List Int} (h : IntsX B w v l) (hB : B ≤ B') : IntsX B' w v l := by
 rcases h with h | h
 ·exact .inl (h.mono (fun b hb => by omega))
 ·exact .inr h
theorem lentInts_any {B : Nat} (v : Value) (l : List Int) (w : World) (hv : IntsX B w v l) :
  Calls Tryz.prog 25 #[v] w fun e w' => ∃ sa sc, e = .returned (.slice sa l.length sc) ∧ Below w.heap.size w w' ∧ LentV w.heap.size w' v sa sc l := by
 obtain ⟨hl, ⟨rfl, rfl⟩ | ⟨b, off, cap, rfl, hb, hc⟩⟩ | ⟨ea, ec, rfl, rfl⟩ := hv
 ·refine (lentInts_nil w).mono ?_
  rintro e w' ⟨rfl, rfl⟩
  exact ⟨none, 0, rfl, Below.refl _ _, .inl ⟨rfl, rfl, rfl, rfl⟩⟩
 ·refine (lentInts_some b off cap l w hl hc).mono ?_
  rintro e w' ⟨g, h1, h2, rfl, h3, h4, h5⟩
  exact ⟨_, _, rfl, h3, .inr ⟨g, rfl, rfl, by simp, h1, h2, h4, h5⟩⟩
 ·refine (lentInts_at ea ec [] w (by simp) (fun j v hv => by simp [ints] at hv)).mono ?_
  rintro e w' ⟨g, h1, h2, rfl, h3, h4, h5⟩
  exact ⟨_, _, rfl, h3, .inr ⟨g, rfl, rfl, by simp, h1, h2, h4, h5⟩⟩
theorem LentV.below {lo : Nat} {w w' : World} {v : Value} {sa : Option Addr} {sc : Nat} {l : List Int} (h : LentV lo w v sa sc l) (hb : Below w.heap.size w w') : LentV lo w' v sa sc l := by
 rcases h with h | ⟨g, h1, h2, h3, h4, h5, h6, h7⟩
 ·exact .inl h
 ·exact .inr ⟨g, h1, h2, h3, h4, by have := hb.size; omega, h6.below hb h5, h7.below hb h5⟩
theorem LentV.only {S : Nat → Prop} {lo : Nat} {w w' : World} {v : Value} {sa : Option Addr} {sc : Nat} {l : List Int} (h : LentV lo w v sa sc l) (ho : Only S w w') (hS : ∀ b, lo ≤ b → ¬ S b) : LentV lo w' v sa sc l := by
 rcases h with h | ⟨g, h1, h2, h3, h4, h5, h6, h7⟩
 ·exact .inl h
 ·exact .inr ⟨g, h1, h2, h3, h4, by have := ho.size; omega, h6.only ho (hS g h4), h7.only ho (hS g h4)⟩
theorem LentV.ints {lo : Nat} {w : World} {v : Value} {sa : Option Addr} {sc : Nat} {l : List Int} (h : LentV lo w v sa sc l) (hl : l.length ≤ 17592186044416) : IntsIn (· < w.heap.size) w (.slice sa l.length sc) l := by
 rcases h with ⟨_, rfl, rfl, rfl⟩ | ⟨g, rfl, rfl, h3, h4, h5, h6, h7⟩
 ·exact ⟨hl, .inl ⟨rfl, rfl⟩⟩
 ·exact ⟨hl, .inr ⟨g, 0, _, rfl, h5, lentI_row h6⟩⟩
theorem wholeInts_any (lo hi : Nat) (v : Value) (l : List Int) (sa : Option Addr) (sc : Nat) (w : World) (hv : IntsX lo w v l) (h : LentV lo w v sa sc l) (hhi : ∀ g, sa = some ⟨g, 0, none⟩ → g < hi) :
  Calls Tryz.prog 28 #[.slice sa l.length sc, v] w fun e w' => e = .returned (.bool true) ∧ Only (fun x => lo ≤ x ∧ x < hi) w w' := by
 rcases h with ⟨rfl, rfl, rfl, rfl⟩ | ⟨g, rfl, rfl, h3, h4, h5, h6, h7⟩
 ·refine (wholeInts_nil _ w).mono ?_
  rintro e w' ⟨rfl, rfl⟩
  exact ⟨rfl, Only.refl _ _⟩
 ·obtain ⟨hl, ⟨h0, _⟩ | ⟨b, off, cap, rfl, hb, hc⟩⟩ | ⟨ea, ec, rfl, rfl⟩ := hv
  ·exact absurd h0 h3
  ·refine (wholeInts_some b off cap g 0 l w hl hc (by omega) h6 h7).mono ?_
   rintro e w' ⟨rfl, ho⟩
   refine ⟨rfl, ho.mono ?_⟩
   intro k _ hk
   subst hk
   exact ⟨h4, hhi _ rfl⟩
  ·refine (wholeInts_gen ea (g + 1) 0 ec g 0 [] w (fun h => by simp at h) (by simp) (fun j v hv => by simp [ints] at hv) (by omega) h6 h7).mono ?_
   rintro e w' ⟨rfl, ho⟩
   refine ⟨rfl, ho.mono ?_⟩
   intro k _ hk
   subst hk
   exact ⟨h4, hhi _ rfl⟩
theorem one_none (wb : Nat) (w : World) :
  Calls Tryz.prog 29 #[.pointer (some ⟨wb, 0, none⟩), .pointer none, .pointer none] w fun e w' => e = .returned (.bool true) ∧ w' = w := by
 go_enter Tryz.func29, Tryz.ntmps29
 go_wp2
 go_ret
 exact ⟨rfl, rfl⟩
theorem one_some {base : Nat} {w0 : World} (wb : Nat) (lv : Value) (ps : List Pair) (p : Pair) (bk : BookD) (w : World) (h : Inv base w0 wb lv ps bk) (hb : Below w0.heap.size w0 w)
  (hp : PairOK w p) (hm : ∀ b, p.own b → w0.heap.size ≤ b) (hlen : (ps.length + 1) * 16 ≤ 140737488355328) (hbase : base ≤ w0.heap.size) :
  Calls Tryz.prog 29 #[.pointer (some ⟨wb, 0, none⟩), .pointer (some ⟨p.kb, 0, none⟩), .pointer (some ⟨p.rb, 0, none⟩)] w fun e w' => e = .returned (.bool true) ∧ Below base w0 w' ∧ ∃ lv', Inv base w' wb lv' (ps ++ [p]) bk := by
 have hw0 := h.wlt
 have hc0 := below_at hb h.cell hw0
 have hz0 := hb.size
 have hown := own_kept h.owns hb
 have Hown := hide hown
 clear hown
 obtain ⟨la, lc, rfl⟩ := owns_form h.owns
 have hf0 := (hb.frozen (p := ⟨wb, 0, none⟩) hw0).trans (h.room 0 (by omega)).2
 go_enter Tryz.func29, Tryz.ntmps29
 go_wp2_with (at_builtin; refine wpList_append_src rfl (.tmp 18) (.tmp 22) 28 rfl base 52 (.agg #[.pointer none, .pointer none]) 2 16 Tryz.underlying28 Tryz.info52 rfl (by omega) _ ps.length (pairsRow ps) rfl (Hown.out.alloc _) _ 1 (pairCells p) rfl (.inr (.inl ⟨w.heap.size, 0, _, rfl, ?_⟩)) rfl (by simp [pairCells, Value.oneCell']) (by omega) (by omega) (by simp; omega) ?_)
 ·intro j u hu
  have hj : j < 2 := by have := (List.getElem?_eq_some_iff.1 hu).1; simpa [pairCells] using this
  have : j = 0 ∨ j = 1 := by omega
  rcases this with rfl | rfl <;> simp [pairCells] at hu <;> subst hu <;> simp [go_sem]
 intro v2 w2 hown2 hgr2 hwh2
 obtain ⟨sa2, sc2, rfl⟩ := owns_form hown2.out
 have hW := (Below.refl w.heap.size w).alloc (Nat.le_refl _) (.cells #[.pointer (some ⟨p.kb, 0, none⟩), .pointer (some ⟨p.rb, 0, none⟩)] 52)
 have hI := h.one hb hp hm _ hW hgr2.out hown2.out (by simpa using hwh2.out)
 have ho2 := (only_grown hgr2.out)
 have hwl : ¬ some wb = (Value.slice la ps.length lc).ownBlock := fun e => h.lne e.symm
 have hc2 : w2.cell? ⟨wb, 0, none⟩ = some (.slice la ps.length lc) := ho2.at (below_at hW hc0 (by omega)) hwl
 have hf2 : w2.frozen? ⟨wb, 0, none⟩ = false := by
  rw [World.frozen?_of_block (w := w.alloc (.cells #[.pointer (some ⟨p.kb, 0, none⟩), .pointer (some ⟨p.rb, 0, none⟩)] 52)) (a := ⟨wb, 0, none⟩) (ho2.block wb (by simp; omega) hwl)]
  exact (hW.frozen (p := ⟨wb, 0, none⟩) (by show wb < _; omega)).trans hf0
 have hbb : Below base w0 w2 := (hb.mono hbase).trans ((hW.mono (by omega)).grown hgr2.out (by simp; omega) (fun b hb => (h.owns.lt b hb).1))
 have HI := hide hI
 have hblo := h.blo
 clear hI hc0 hf0
 go_wp2
 go_ret
 exact ⟨rfl, hbb.setCell (by exact hblo) _, _, HI.out⟩
theorem tCheck_any (ents : Int) (v : Value) (ks : List (List Ins)) (w : World) (hv : KindsV w.heap.size w v ks) :
  Calls Tryz.prog 22 #[.agg #[.int .i64 ents, v]] w
   fun e w' => e = .returned (checkV ents ks) ∧ Below w.heap.size w w' := by
 go_enter Tryz.func22, Tryz.ntmps22
 go_wp2_with fail
 refine (mCheck_any ents v ks _ ((hv.below ((Below.refl _ _).alloc (Nat.le_refl _) _)).mono (by simp))).mono ?_
 rintro e w1 ⟨rfl, hb1⟩
 rw [checkV_eq]
 go_wp2
 go_ret3
 exact ⟨by simp [checkV_eq], ((Below.refl _ _).alloc (Nat.le_refl _) _).trans (hb1.mono (by simp))⟩
theorem made_check_nil {base : Nat} (wb : Nat) (lv : Value) (ps : List Pair) (bk : BookD) (a b c d ents : Int) (l rv qv sv : Value) (w : World) (h : Inv base w wb lv ps bk) :
  Calls Tryz.prog 15 #[.pointer (some ⟨wb, 0, none⟩), .agg #[.int .i64 1, .int .i64 a, .int .i64 b, .int .i64 c, .int .i64 d, .int .i64 ents, .slice none 0 0, l, rv, qv, sv]] w
   fun e w' => e = .returned (.bool true) ∧ Below base w w' ∧ ∃ lv' ps', ps'.length ≤ ps.length + 1 ∧ Inv base w' wb lv' ps' bk := by
 have hbl : base ≤ w.heap.size := Nat.le_trans h.blo (Nat.le_of_lt h.wlt)
 obtain ⟨W, hW⟩ : ∃ W, W = w.alloc (.cells #[.int .i64 1, .int .i64 a, .int .i64 b, .int .i64 c, .int .i64 d, .int .i64 ents, .slice none 0 0, l, rv, qv, sv] 41) := ⟨_, rfl⟩
 have hb : Below w.heap.size w W := by rw [hW]; exact (Below.refl _ _).alloc (Nat.le_refl _) _
 have hWs : W.heap.size = w.heap.size + 1 := by rw [hW]; simp
 have c0 : W.cell? ⟨w.heap.size, 0, none⟩ = some (.int .i64 1) := by rw [hW]; simp [go_sem]
 have c5 : W.cell? ⟨w.heap.size, 5, none⟩ = some (.int .i64 ents) := by rw [hW]; simp [go_sem]
 have c6 : W.cell? ⟨w.heap.size, 6, none⟩ = some (.slice none 0 0) := by rw [hW]; simp [go_sem]
 go_enter Tryz.func15, Tryz.ntmps15
 go_wp2_with fail
 rw [← hW]
 refine (lentModel_nil ents _).mono ?_
 rintro e w1 ⟨rfl, hb1⟩
 have hz1 := hb1.size
 have d0 := below_at hb1 c0 (by omega)
 have d5 := below_at hb1 c5 (by omega)
 have d6 := below_at hb1 c6 (by omega)
 have hB1 : Below w.heap.size w w1 := hb.trans (hb1.mono (by omega))
 have hlt1 : w.heap.size < w1.heap.size := by omega
 clear c0 c5 c6
 go_wp2_with fail
 have hm := (Below.refl w1.heap.size w1).alloc (Nat.le_refl _) (.cells #[.int .i64 ents, .slice none 0 0] 38)
 have hkn : ∀ (W : World) (B : Nat), KindsV B W (.slice none 0 0) [] := fun W B => ⟨by simp, .inl ⟨rfl, rfl⟩⟩
 refine (tCheck_any ents _ [] _ (hkn _ _)).mono ?_
 rintro e w2 ⟨rfl, hb2⟩
 rw [checkV_eq]
 have hz2 := hb2.size
 rw [World.size_alloc] at hz2
 have e5 := below_at hb2 (below_at hm d5 (by omega)) (by simp; omega)
 have e6 := below_at hb2 (below_at hm d6 (by omega)) (by simp; omega)
 have m0 : w2.cell? ⟨w1.heap.size, 0, none⟩ = some (.int .i64 ents) := below_at hb2 (by simp [go_sem]) (by simp)
 have m1 : w2.cell? ⟨w1.heap.size, 1, none⟩ = some (.slice none 0 0) := below_at hb2 (by simp [go_sem]) (by simp)
 have hB2 : Below w.heap.size w w2 := hB1.trans ((hm.mono (by omega)).trans (hb2.mono (by simp; omega)))
 clear d0 d5 d6
 go_wp2_with fail
 refine (rCheck_any ents _ [] _ (hkn _ _)).mono ?_
 rintro e w3 ⟨rfl, hb3⟩
 rw [checkV_eq]
 have hz3 := hb3.size
 have f5 := below_at hb3 e5 (by omega)
 have f6 := below_at hb3 e6 (by omega)
 have n0 := below_at hb3 m0 (by omega)
 have n1 := below_at hb3 m1 (by omega)
 have hB3 : Below w.heap.size w w3 := hB2.trans (hb3.mono (by omega))
 clear e5 e6 m0 m1
 generalize checkE ents [] = vE
 generalize checkK ents [] = vK
 generalize checkP ents [] = vP
 go_wp2_with fail
 refine (wholeModel_nil ents _ _ _).mono ?_
 rintro e w4 ⟨rfl, hb4⟩
 have hB4 : Below w.heap.size w w4 := hB3.trans (hb4.mono (by omega))
 go_wp2
 go_ret
 exact ⟨by simp, hB4.mono hbl, lv, ps, by omega, h.below hB4⟩
theorem made_check_some {base : Nat} (wb : Nat) (lv : Value) (ps : List Pair) (bk : BookD) (a b c d ents : Int) (ka : Addr) (kb koff kcap : Nat) (ks : List (List Ins)) (l rv qv sv : Value) (w : World) (h : Inv base w wb lv ps bk) (hka : 0 < ks.length → ka = ⟨kb, koff, none⟩) (hkl : ks.length ≤ 5864062014805) (hkb : kb < base) (hK : KindsAt base w kb koff ks) :
  Calls Tryz.prog 15 #[.pointer (some ⟨wb, 0, none⟩), .agg #[.int .i64 1, .int .i64 a, .int .i64 b, .int .i64 c, .int .i64 d, .int .i64 ents, .slice (some ka) ks.length kcap, l, rv, qv, sv]] w
   fun e w' => e = .returned (.bool true) ∧ Below base w w' ∧ ∃ lv' ps', ps'.length ≤ ps.length + 1 ∧ Inv base w' wb lv' ps' bk := by
 have hbl : base ≤ w.heap.size := Nat.le_trans h.blo (Nat.le_of_lt h.wlt)
 obtain ⟨W, hW⟩ : ∃ W, W = w.alloc (.cells #[.int .i64 1, .int .i64 a, .int .i64 b, .int .i64 c, .int .i64 d, .int .i64 ents, .slice (some ka) ks.length kcap, l, rv, qv, sv] 41) := ⟨_, rfl⟩
 have hb : Below w.heap.size w W := by rw [hW]; exact (Below.refl _ _).alloc (Nat.le_refl _) _
 have hWs : W.heap.size = w.heap.size + 1 := by rw [hW]; simp
 have c0 : W.cell? ⟨w.heap.size, 0, none⟩ = some (.int .i64 1) := by rw [hW]; simp [go_sem]
 have c5 : W.cell? ⟨w.heap.size, 5, none⟩ = some (.int .i64 ents) := by rw [hW]; simp [go_sem]
 have c6 : W.cell? ⟨w.heap.size, 6, none⟩ = some (.slice (some ka) ks.length kcap) := by rw [hW]; simp [go_sem]
 have HK : Hid (∀ W : World, Below w.heap.size w W → KindsAt W.heap.size W kb koff ks) := by
  intro W hW
  have := hW.size
  exact (hK.below (hW.mono hbl) hkb (Nat.le_refl _)).mono (by omega)
 clear hK
 go_enter Tryz.func15, Tryz.ntmps15
 go_wp2_with fail
 rw [← hW]
 refine (lentModel_gen ents ka kb koff kcap ks _ hka hkl (by omega) (HK.out W hb)).mono ?_
 rintro e w1 ⟨g, hh, rs, rfl, hb1, hL1⟩
 have hz1 := hb1.size
 have d0 := below_at hb1 c0 (by omega)
 have d5 := below_at hb1 c5 (by omega)
 have d6 := below_at hb1 c6 (by omega)
 have hB1 : Below w.heap.size w w1 := hb.trans (hb1.mono (by omega))
 have hlt1 : w.heap.size < w1.heap.size := by omega
 have HL1 := hide hL1
 clear c0 c5 c6 hL1
 go_wp2_with fail
 have hm := (Below.refl w1.heap.size w1).alloc (Nat.le_refl _) (.cells #[.int .i64 ents, .slice (some ⟨g, 0, none⟩) ks.length (ks.length + 8)] 38)
 have HLm := hide (HL1.out.below hm)
 refine (tCheck_any ents _ ks _ ⟨hkl, .inr (.inl ⟨g, 0, _, rfl, HLm.out.ghi, HLm.out.kinds⟩)⟩).mono ?_
 rintro e w2 ⟨rfl, hb2⟩
 rw [checkV_eq]
 have hz2 := hb2.size
 rw [World.size_alloc] at hz2
 have e5 := below_at hb2 (below_at hm d5 (by omega)) (by simp; omega)
 have e6 := below_at hb2 (below_at hm d6 (by omega)) (by simp; omega)
 have m0 : w2.cell? ⟨w1.heap.size, 0, none⟩ = some (.int .i64 ents) := below_at hb2 (by simp [go_sem]) (by simp)
 have m1 : w2.cell? ⟨w1.heap.size, 1, none⟩ = some (.slice (some ⟨g, 0, none⟩) ks.length (ks.length + 8)) := below_at hb2 (by simp [go_sem]) (by simp)
 have hB2 : Below w.heap.size w w2 := hB1.trans ((hm.mono (by omega)).trans (hb2.mono (by simp; omega)))
 have HL2 := hide (HLm.out.below hb2)
 clear d0 d5 d6
 go_wp2_with fail
 refine (rCheck_any ents _ ks _ (kindsV_gen hka hkl (by omega) (HK.out _ hB2))).mono ?_
 rintro e w3 ⟨rfl, hb3⟩
 rw [checkV_eq]
 have hz3 := hb3.size
 have f5 := below_at hb3 e5 (by omega)
 have f6 := below_at hb3 e6 (by omega)
 have n0 := below_at hb3 m0 (by omega)
 have n1 := below_at hb3 m1 (by omega)
 have hB3 : Below w.heap.size w w3 := hB2.trans (hb3.mono (by omega))
 have HL3 := hide (HL2.out.below hb3)
 clear e5 e6 m0 m1
 generalize checkE ents ks = vE
 generalize checkK ents ks = vK
 generalize checkP ents ks = vP
 go_wp2_with fail
 refine (wholeModel_gen ents ka _ _ g hh kb koff kcap rs ks _ hka hkl HL3.out).mono ?_
 rintro e w4 ⟨rfl, ho4⟩
 have hB4 : Below w.heap.size w w4 := hB3.trans (ho4.below (by omega) (by
  rintro k hk (rfl | ⟨i, hi⟩)
  ·have := HL3.out.glo; omega
  ·have hilt : i < ks.length := by have := (List.getElem?_eq_some_iff.1 hi).1; rw [HL3.out.len] at this; exact this
   have := (HL3.out.code i k ks[i] hi (by simp [hilt])).2.2.1; omega))
 go_wp2
 go_ret
 exact ⟨by simp, hB4.mono hbl, lv, ps, by omega, h.below hB4⟩
theorem drawsR_eq (l : List Int) : drawsR l = drawsF l := rfl
theorem kindF_nil (ents : Int) : kindF ents [] = some (0, 0) := by
 unfold kindF
 rw [if_pos]
 simp [inB]
theorem made_new_nil {base : Nat} (wb : Nat) (lv : Value) (ps : List Pair) (bk : BookD) (a b c d ents : Int) (l : Value) (draws : List Int) (rv qv sv : Value) (w : World) (h : Inv base w wb lv ps bk) (hd : IntsX base w l draws) :
  Calls Tryz.prog 15 #[.pointer (some ⟨wb, 0, none⟩), .agg #[.int .i64 2, .int .i64 a, .int .i64 b, .int .i64 c, .int .i64 d, .int .i64 ents, .slice none 0 0, l, rv, qv, sv]] w
   fun e w' => e = .returned (.bool true) ∧ Below base w w' ∧ ∃ lv' ps', ps'.length ≤ ps.length + 1 ∧ Inv base w' wb lv' ps' bk := by
 have hbl : base ≤ w.heap.size := Nat.le_trans h.blo (Nat.le_of_lt h.wlt)
 obtain ⟨W, hW⟩ : ∃ W, W = w.alloc (.cells #[.int .i64 2, .int .i64 a, .int .i64 b, .int .i64 c, .int .i64 d, .int .i64 ents, .slice none 0 0, l, rv, qv, sv] 41) := ⟨_, rfl⟩
 have hb : Below w.heap.size w W := by rw [hW]; exact (Below.refl _ _).alloc (Nat.le_refl _) _
 have hWs : W.heap.size = w.heap.size + 1 := by rw [hW]; simp
 have c0 : W.cell? ⟨w.heap.size, 0, none⟩ = some (.int .i64 2) := by rw [hW]; simp [go_sem]
 have c5 : W.cell? ⟨w.heap.size, 5, none⟩ = some (.int .i64 ents) := by rw [hW]; simp [go_sem]
 have c6 : W.cell? ⟨w.heap.size, 6, none⟩ = some (.slice none 0 0) := by rw [hW]; simp [go_sem]
 have c7 : W.cell? ⟨w.heap.size, 7, none⟩ = some l := by rw [hW]; simp [go_sem]
 obtain ⟨la, lc, rfl⟩ := hd.form
 have HD : Hid (∀ W : World, Below w.heap.size w W → IntsX base W (.slice la draws.length lc) draws) := by
  intro W hW
  exact hd.below (hW.mono hbl)
 have hdl := hd.len
 clear hd
 have hkn : ∀ (W : World) (B : Nat), KindsV B W (.slice none 0 0) [] := fun W B => ⟨by simp, .inl ⟨rfl, rfl⟩⟩
 go_enter Tryz.func15, Tryz.ntmps15
 go_wp2_with fail
 rw [← hW]
 refine (lentModel_nil ents _).mono ?_
 rintro e w1 ⟨rfl, hb1⟩
 have hz1 := hb1.size
 have d0 := below_at hb1 c0 (by omega)
 have d5 := below_at hb1 c5 (by omega)
 have d6 := below_at hb1 c6 (by omega)
 have d7 := below_at hb1 c7 (by omega)
 have hB1 : Below w.heap.size w w1 := hb.trans (hb1.mono (by omega))
 have hlt1 : w.heap.size < w1.heap.size := by omega
 clear c0 c5 c6 c7 hW
 go_wp2_with fail
 have hm := (Below.refl w1.heap.size w1).alloc (Nat.le_refl _) (.cells #[.int .i64 ents, .slice none 0 0] 38)
 refine (lentInts_any _ draws _ (HD.out _ (hB1.trans (hm.mono (by omega))))).mono ?_
 rintro e w2 ⟨sa, sc, rfl, hb2, hLV⟩
 have hz2 := hb2.size
 rw [World.size_alloc] at hz2
 have e0 := below_at hb2 (below_at hm d0 (by omega)) (by simp; omega)
 have e5 := below_at hb2 (below_at hm d5 (by omega)) (by simp; omega)
 have e6 := below_at hb2 (below_at hm d6 (by omega)) (by simp; omega)
 have e7 := below_at hb2 (below_at hm d7 (by omega)) (by simp; omega)
 have m0 : w2.cell? ⟨w1.heap.size, 0, none⟩ = some (.int .i64 ents) := below_at hb2 (by simp [go_sem]) (by simp)
 have m1 : w2.cell? ⟨w1.heap.size, 1, none⟩ = some (.slice none 0 0) := below_at hb2 (by simp [go_sem]) (by simp)
 have hB2 : Below w.heap.size w w2 := hB1.trans ((hm.mono (by omega)).trans (hb2.mono (by simp; omega)))
 have HLV := hide hLV
 rw [World.size_alloc] at HLV
 clear d0 d5 d6 d7 hLV
 go_wp2_with fail
 refine (tNew_model (B := 0) ents _ _ [] _ (hkn _ _) (0, 0) (kindF_nil ents)).mono ?_
 rintro e w3 ⟨rfl, hb3⟩
 have hz3 := hb3.size
 have f5 := below_at hb3 e5 (by omega)
 have f6 := below_at hb3 e6 (by omega)
 have f7 := below_at hb3 e7 (by omega)
 have n0 := below_at hb3 m0 (by omega)
 have n1 := below_at hb3 m1 (by omega)
 have hB3 : Below w.heap.size w w3 := hB2.trans (hb3.mono (by omega))
 clear e0 e5 e6 e7 m0 m1
 go_wp2_with fail
 refine (rNew_model ents _ _ [] _ (hkn _ _) (0, 0) (kindF_nil ents)).mono ?_
 rintro e w4 ⟨rfl, hb4⟩
 have hz4 := hb4.size
 have g5 := below_at hb4 f5 (by omega)
 have g6 := below_at hb4 f6 (by omega)
 have g7 := below_at hb4 f7 (by omega)
 have p0 := below_at hb4 n0 (by omega)
 have p1 := below_at hb4 n1 (by omega)
 have hB4 : Below w.heap.size w w4 := hB3.trans (hb4.mono (by omega))
 clear f5 f6 f7 n0 n1
 go_wp2_with fail
 refine (wholeModel_nil ents _ _ _).mono ?_
 rintro e w5 ⟨rfl, hb5⟩
 have hz5 := hb5.size
 have q7 := below_at hb5 g7 (by omega)
 have hB5 : Below w.heap.size w w5 := hB4.trans (hb5.mono (by omega))
 clear g5 g6 g7 p0 p1
 go_wp2_with fail
 refine (wholeInts_any (w1.heap.size + 1) w5.heap.size _ draws sa sc _ ((HD.out _ hB5).mono (by omega)) (((HLV.out.below hb3).below hb4).below hb5) (by
  intro g hg
  rcases HLV.out with ⟨_, h0, _⟩ | ⟨g', h1, _, _, _, h5, _⟩
  ·rw [h0] at hg; cases hg
  ·rw [h1] at hg; simp at hg; omega)).mono ?_
 rintro e w6 ⟨rfl, ho6⟩
 have hB6 : Below w.heap.size w w6 := hB5.trans (ho6.below (by omega) (by intro k hk hs; omega))
 go_wp2_with fail
 refine (one_none wb _).mono ?_
 rintro e w7 ⟨rfl, rfl⟩
 go_wp2
 go_ret
 exact ⟨by simp, hB6.mono hbl, lv, ps, by omega, h.below hB6⟩
theorem rNew_emptyD (ents : Int) (b off cap : Nat) (da : Addr) (dc : Nat) (ks : List (List Ins)) (w : World) (hl : ks.length ≤ 5864062014805) (hbw : b < w.heap.size) (hK : KindsAt w.heap.size w b off ks) (hk : kindF ents ks = none) :
  Calls Tryz.prog 27 #[.agg #[.int .i64 ents, .slice (some ⟨b, off, none⟩) ks.length cap], .slice (some da) 0 dc] w
   fun e w' => ∃ rb, e = .returned (.tuple #[.pointer (some ⟨rb, 0, none⟩), .int .i64 0]) ∧ Below w.heap.size w w' ∧ w.heap.size ≤ rb ∧ rb < w'.heap.size ∧
    RefK (fun b => w.heap.size ≤ b ∧ b < w'.heap.size ∧ b ≠ rb) w' rb ents ks [] 0 0 1 (List.replicate (ents * 4).toNat 0) [] := by
 have hents : 1 ≤ ents ∧ ents ≤ 8 := by
  unfold kindF at hk
  split at hk
  ·simp at hk
  ·rename_i h; simp [inB] at h; omega
 obtain ⟨he1, he2⟩ := hents
 have HV : Hid (checkV ents ks = .tuple #[.int .i64 0, .int .i64 0, .int .i64 0]) := by show _ = _; simp [checkV, hk]
 clear hk
 have hmk : ∀ W : World, (Instr.makeSlice 24 (.int .i64 (ents * 4)) (.int .i64 (ents * 4))).run Tryz.prog W = .ok (.slice (some ⟨W.heap.size, 0, none⟩) (ents * 4).toNat (ents * 4).toNat) (W.alloc (.cells (madeCells #[.int .i64 0] (ents * 4).toNat) 3)) := by
  intro W
  obtain ⟨i, hi, hz, hsz, hby⟩ := info_parts Tryz.info3
  have := run_make (P := Tryz.prog) W 24 3 i (.int .i64 0) Tryz.underlying24 hi hz .i64 .i64 (ents * 4) (ents * 4) (by omega) (Int.le_refl _) (by rw [hby]; omega) (by omega)
  rw [hsz] at this
  simp only [Nat.mul_one] at this
  exact this
 have hwrap : IntKind.i64.wrap (ents * 4) = ents * 4 := by rw [IntKind.wrap_i64]; omega
 go_enter Tryz.func27, Tryz.ntmps27
 go_wp2_with fail
 have hv : KindsV w.heap.size w (.slice (some ⟨b, off, none⟩) ks.length cap) ks := ⟨hl, .inr (.inl ⟨b, off, cap, rfl, hbw, hK⟩)⟩
 refine (rCheck_any ents _ ks _ ((hv.below ((Below.refl _ _).alloc (Nat.le_refl _) _)).mono (by simp))).mono ?_
 rintro e w1 ⟨rfl, hb1⟩
 rw [HV.out]
 have hb2 : Below w.heap.size w w1 := ((Below.refl _ _).alloc (Nat.le_refl _) _).trans (hb1.mono (by simp))
 have hm0 : w1.cell? ⟨w.heap.size, 0, none⟩ = some (.int .i64 ents) := below_at hb1 (by simp [go_sem]) (by simp)
 have hm1 : w1.cell? ⟨w.heap.size, 1, none⟩ = some (.slice (some ⟨b, off, none⟩) ks.length cap) := below_at hb1 (by simp [go_sem]) (by simp)
 have hz1 : w.heap.size < w1.heap.size := by have := hb1.size; simp at this; omega
 clear hb1
 go_wp2
 go_loopw [9, 10, 11] (fun lv i _ wr => i = .int .i64 0 ∧ lv = .slice none 0 0 ∧ Below w1.heap.size w1 wr) (fun _ _ _ _ => 0)
 case atStart => exact ⟨rfl, rfl, Below.refl _ _⟩
 case round =>
  obtain ⟨rfl, rfl, hbel⟩ := hrel
  have Hdr : Hid (IntsIn (fun b => w.heap.size ≤ b ∧ b < wr.heap.size) wr (.slice none 0 0) []) := ⟨by simp, .inl ⟨rfl, rfl⟩⟩
  have gm0 := below_at hbel hm0 hz1
  have gm1 := below_at hbel hm1 hz1
  have hbb := hb2.trans (hbel.mono (by omega))
  have hzr : w.heap.size < wr.heap.size := by have := hbel.size; omega
  have HK : Hid (∀ W, Below wr.heap.size wr W → KindsAt W.heap.size W b off ks) := by
   intro W hW
   have := hW.size
   exact (hK.below (hbb.trans (hW.mono (by omega))) hbw (Nat.le_refl _)).mono (by omega)
  clear hm0 hm1
  go_wp2
  go_region_with (go_at_call 63; refine (rModel_any ents b off cap ks _ hl (by simp; omega) (HK.out _ (by first | exact (Below.refl _ _).drew | exact ((Below.refl _ _).alloc (Nat.le_refl _) _).drew | exact ((Below.refl _ _).drew).alloc (Nat.le_refl _) _))).mono ?_; rintro e w3 ⟨sa, sc, rfl, hb3, hK3⟩; have q0 : w3.cell? ⟨w.heap.size, 0, none⟩ = some (.int .i64 ents) := below_at hb3 (by first | exact gm0 | exact below_at ((Below.refl _ _).alloc (Nat.le_refl _) _) gm0 hzr) (by simp; omega); have q1 : w3.cell? ⟨w.heap.size, 1, none⟩ = some (.slice (some ⟨b, off, none⟩) ks.length cap) := below_at hb3 (by first | exact gm1 | exact below_at ((Below.refl _ _).alloc (Nat.le_refl _) _) gm1 hzr) (by simp; omega))
  all_goals
   go_wp2
   go_ret2
   first
    | (have hb3' : Below wr.heap.size wr w3 := (Below.refl _ _).drew.trans hb3
       exact ⟨w3.heap.size + 1, by simp [Act.put], refK_endA hbb hb3' hK3 Hdr.out _ _ (by omega)⟩)
    | (have hb3' : Below (wr.heap.size + 1) (wr.alloc (.cells (madeCells #[.int .i64 0] (ents * 4).toNat) 3)) w3 := (Below.refl _ _).drew.trans (by simpa using hb3)
       exact ⟨w3.heap.size, by simp [Act.put], refK_endB hbb hb3' (by simpa using hK3) Hdr.out _ (by omega)⟩)
theorem rNew_restX (ents : Int) (b off cap : Nat) (dv : Value) (ks : List (List Ins)) (draws : List Int) (w : World) (hl : ks.length ≤ 5864062014805) (hbw : b < w.heap.size) (hK : KindsAt w.heap.size w b off ks) (hd : IntsX w.heap.size w dv draws) (hk : kindF ents ks = none) :
  Calls Tryz.prog 27 #[.agg #[.int .i64 ents, .slice (some ⟨b, off, none⟩) ks.length cap], dv] w
   fun e w' => (drawsR draws = false ∧ e = .returned (.tuple #[.pointer none, .int .i64 1]) ∧ Below w.heap.size w w') ∨ (drawsR draws = true ∧ ∃ rb, e = .returned (.tuple #[.pointer (some ⟨rb, 0, none⟩), .int .i64 0]) ∧ Below w.heap.size w w' ∧ w.heap.size ≤ rb ∧ rb < w'.heap.size ∧
    RefK (fun b => w.heap.size ≤ b ∧ b < w'.heap.size ∧ b ≠ rb) w' rb ents ks draws 0 0 1 (List.replicate (ents * 4).toNat 0) []) := by
 rcases hd with hd | ⟨da, dc, rfl, rfl⟩
 ·exact rNew_rest ents b off cap dv ks draws w hl hbw hK hd hk
 ·refine (rNew_emptyD ents b off cap da dc ks w hl hbw hK hk).mono ?_
  rintro e w' h
  exact .inr ⟨rfl, h⟩
end Go.Proofs.YtndlmgocldckfaaGreat
