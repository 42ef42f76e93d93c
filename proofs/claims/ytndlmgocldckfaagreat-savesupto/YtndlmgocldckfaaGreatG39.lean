import Derived.Test.YtndlmgocldckfaaGreatG38
import Derived.Test.YtndlmgocldckfaaGreatG19
import Derived.Test.YtndlmgocldckfaaGreatG17
namespace Go.Proofs.YtndlmgocldckfaaGreat
open Go.RowKit
set_option linter.unusedVariables false
set_option linter.unusedSimpArgs false
set_option maxRecDepth 100000
set_option maxHeartbeats 4000000
def resE (ents : Int) (ks : List (List Ins)) (draws : List Int) (l : List Int) : Int := if (kindF ents ks).isSome then 2 else if drawsF draws then loadE ents.toNat ks.length draws.length l else 1
def resS (ents : Int) (ks : List (List Ins)) (draws : List Int) (l : List Int) : KS := (kerRF ents.toNat ks.length draws.length (openL l)).2.1
theorem kind_bounds {ents : Int} {ks : List (List Ins)} (hk : kindF ents ks = none) : ∃ E : Nat, ents = E ∧ (1 ≤ E ∧ E ≤ 8) ∧ 1 ≤ ks.length ∧ ks.length ≤ 8 := by
 obtain ⟨⟨h1, h2⟩, h3, h4⟩ := kind_facts hk
 exact ⟨ents.toNat, by omega, by omega, h3, h4⟩
theorem tload_no (ents : Int) (v dv bv : Value) (w : World) (E : Int) (hE : E ≠ 0) (hN : Calls Tryz.prog 26 #[.agg #[.int .i64 ents, v], dv] (w.alloc (.cells #[.int .i64 ents, v] 38)) fun e w' => e = .returned (.tuple #[.pointer none, .int .i64 E]) ∧ Below (w.heap.size + 1) (w.alloc (.cells #[.int .i64 ents, v] 38)) w') :
  Calls Tryz.prog 31 #[.agg #[.int .i64 ents, v], dv, bv] w fun e w' => e = .returned (.tuple #[.pointer none, .int .i64 E]) ∧ Below w.heap.size w w' := by
 have d0 : (E != 0) = true := by simpa using hE
 have HN := hide hN
 clear hN hE
 go_enter Tryz.func31, Tryz.ntmps31
 go_wp2_with fail
 refine HN.out.mono ?_
 rintro e w1 ⟨rfl, hb1⟩
 go_wp2_with fail
 go_ret2
 exact ⟨rfl, (alloc_below _ _).trans (hb1.mono (by omega))⟩
theorem rload_no (ents : Int) (v dv : Value) (s : ByteArray) (w : World) (E : Int) (hE : E ≠ 0) (hN : Calls Tryz.prog 27 #[.agg #[.int .i64 ents, v], dv] (w.alloc (.cells #[.int .i64 ents, v] 38)) fun e w' => e = .returned (.tuple #[.pointer none, .int .i64 E]) ∧ Below (w.heap.size + 1) (w.alloc (.cells #[.int .i64 ents, v] 38)) w') :
  Calls Tryz.prog 32 #[.agg #[.int .i64 ents, v], dv, .string s] w fun e w' => e = .returned (.tuple #[.pointer none, .int .i64 E]) ∧ Below w.heap.size w w' := by
 have d0 : (E != 0) = true := by simpa using hE
 have HN := hide hN
 clear hN hE
 go_enter Tryz.func32, Tryz.ntmps32
 go_wp2_with fail
 refine HN.out.mono ?_
 rintro e w1 ⟨rfl, hb1⟩
 go_wp2_with fail
 go_ret2
 exact ⟨rfl, (alloc_below _ _).trans (hb1.mono (by omega))⟩
theorem tload_all (ents : Int) (b off cap : Nat) (dv : Value) (ks : List (List Ins)) (draws : List Int) (ba : Option Addr) (bcap : Nat) (l : List Int) (w : World) (hl : ks.length ≤ 5864062014805) (hbw : b < w.heap.size) (hK : KindsAt w.heap.size w b off ks) (hd : IntsIn (· < w.heap.size) w dv draws) (hB : BytesV w ba bcap l) :
  Calls Tryz.prog 31 #[.agg #[.int .i64 ents, .slice (some ⟨b, off, none⟩) ks.length cap], dv, .slice ba l.length bcap] w fun e w' => ∃ p, e = .returned (.tuple #[.pointer p, .int .i64 (resE ents ks draws l)]) ∧ Below w.heap.size w w' ∧ (resE ents ks draws l ≠ 0 → p = none) ∧
   (resE ents ks draws l = 0 → ∃ kb qb mb ov R base, p = some ⟨kb, 0, none⟩ ∧ (w.heap.size ≤ base ∧ base ≤ w'.heap.size) ∧ (∀ x, KSet kb qb mb ov x → base ≤ x) ∧ (∀ x, R x → base ≤ x) ∧ KerP R base w' kb qb mb ov ents ks draws (resS ents ks draws l)) := by
 have hbA := alloc_below w (.cells #[.int .i64 ents, .slice (some ⟨b, off, none⟩) ks.length cap] 38)
 have hsA : (w.alloc (.cells #[.int .i64 ents, .slice (some ⟨b, off, none⟩) ks.length cap] 38)).heap.size = w.heap.size + 1 := by simp
 rcases hk : kindF ents ks with _ | p
 ·obtain ⟨E, rfl, he, hk1, hk8⟩ := kind_bounds hk
  rcases hD : drawsF draws with _ | _
  ·have hr : resE (E : Int) ks draws l = 1 := by simp [resE, hk, hD]
   rw [hr]
   have hV : KindsV (w.heap.size + 1) (w.alloc (.cells #[.int .i64 (E : Int), .slice (some ⟨b, off, none⟩) ks.length cap] 38)) (.slice (some ⟨b, off, none⟩) ks.length cap) ks := ((show KindsV w.heap.size w _ ks from ⟨hl, .inr (.inl ⟨b, off, cap, rfl, hbw, hK⟩)⟩).below hbA).mono (by omega)
   have hN := tNew_draws (E : Int) (.slice (some ⟨b, off, none⟩) ks.length cap) dv ks draws (w.alloc (.cells #[.int .i64 (E : Int), .slice (some ⟨b, off, none⟩) ks.length cap] 38)) (by rw [hsA]; exact hV) ((hd.only (Only.new (S := fun _ => False) hbA) (by simp)).mono (fun x hx => by rw [hsA]; omega)) hk hD
   rw [hsA] at hN
   refine (tload_no _ _ _ _ w 1 (by decide) hN).mono ?_
   rintro e w' ⟨rfl, hb⟩
   exact ⟨none, rfl, hb, fun _ => rfl, fun h => by cases h⟩
  ·have hr : resE (E : Int) ks draws l = loadE E ks.length draws.length l := by simp [resE, hk, hD]
   have hs : resS (E : Int) ks draws l = (kerRF E ks.length draws.length (openL l)).2.1 := by simp [resS]
   rw [hr, hs]
   exact load_any E b off cap dv ks draws ba bcap l w hk8 hbw hK hd hk hD he (draws_facts hD) hB
 ·have hr : resE ents ks draws l = 2 := by simp [resE, hk]
  rw [hr]
  have hV : KindsV (w.heap.size + 1) (w.alloc (.cells #[.int .i64 ents, .slice (some ⟨b, off, none⟩) ks.length cap] 38)) (.slice (some ⟨b, off, none⟩) ks.length cap) ks := ((show KindsV w.heap.size w _ ks from ⟨hl, .inr (.inl ⟨b, off, cap, rfl, hbw, hK⟩)⟩).below hbA).mono (by omega)
  have hN := tNew_model (B := 0) ents (.slice (some ⟨b, off, none⟩) ks.length cap) dv ks (w.alloc (.cells #[.int .i64 ents, .slice (some ⟨b, off, none⟩) ks.length cap] 38)) (by rw [hsA]; exact hV) p hk
  rw [hsA] at hN
  refine (tload_no _ _ _ _ w 2 (by decide) hN).mono ?_
  rintro e w' ⟨rfl, hb⟩
  exact ⟨none, rfl, hb, fun _ => rfl, fun h => by cases h⟩
theorem rload_all (ents : Int) (ka : Addr) (b off cap : Nat) (dv : Value) (ks : List (List Ins)) (draws : List Int) (l : List Int) (w : World) (hka : 0 < ks.length → ka = ⟨b, off, none⟩) (hl : ks.length ≤ 5864062014805) (hbw : b < w.heap.size) (hK : KindsAt w.heap.size w b off ks) (hd : IntsX w.heap.size w dv draws) (hv : ∀ c ∈ l, 0 ≤ c ∧ c < 256) (hll : l.length ≤ 1000000000) :
  Calls Tryz.prog 32 #[.agg #[.int .i64 ents, .slice (some ka) ks.length cap], dv, .string (strW l)] w fun e w' => ∃ p, e = .returned (.tuple #[.pointer p, .int .i64 (resE ents ks draws l)]) ∧ Below w.heap.size w w' ∧ (resE ents ks draws l ≠ 0 → p = none) ∧
   (resE ents ks draws l = 0 → Fit ents ks draws (resS ents ks draws l) ∧ RegZ ents (resS ents ks draws l) ∧ kindF ents ks = none ∧ drawsF draws = true ∧ ∃ rb R, p = some ⟨rb, 0, none⟩ ∧ w.heap.size ≤ rb ∧ rb < w'.heap.size ∧ (∀ x, R x → w.heap.size ≤ x ∧ x < w'.heap.size ∧ x ≠ rb) ∧ RefK R w' rb ents ks draws (resS ents ks draws l).taken (resS ents ks draws l).clock (resS ents ks draws l).next (regL ents (resS ents ks draws l)) (resS ents ks draws l).q) := by
 rcases hk : kindF ents ks with _ | p
 ·obtain ⟨E, rfl, he, hk1, hk8⟩ := kind_bounds hk
  obtain rfl := hka (by omega)
  have hbA := alloc_below w (.cells #[.int .i64 (E : Int), .slice (some ⟨b, off, none⟩) ks.length cap] 38)
  have hsA : (w.alloc (.cells #[.int .i64 (E : Int), .slice (some ⟨b, off, none⟩) ks.length cap] 38)).heap.size = w.heap.size + 1 := by simp
  rcases hD : drawsF draws with _ | _
  ·have hr : resE (E : Int) ks draws l = 1 := by simp [resE, hk, hD]
   rw [hr]
   have hN := rNew_restX (E : Int) b off cap dv ks draws (w.alloc (.cells #[.int .i64 (E : Int), .slice (some ⟨b, off, none⟩) ks.length cap] 38)) hl (by rw [hsA]; omega) ((hK.below hbA hbw (Nat.le_refl _)).mono (by rw [hsA]; omega)) ((hd.below hbA).mono (by rw [hsA]; omega)) hk
   have hN' : Calls Tryz.prog 27 #[.agg #[.int .i64 (E : Int), .slice (some ⟨b, off, none⟩) ks.length cap], dv] (w.alloc (.cells #[.int .i64 (E : Int), .slice (some ⟨b, off, none⟩) ks.length cap] 38)) fun e w' => e = .returned (.tuple #[.pointer none, .int .i64 1]) ∧ Below (w.heap.size + 1) (w.alloc (.cells #[.int .i64 (E : Int), .slice (some ⟨b, off, none⟩) ks.length cap] 38)) w' := by
    refine hN.mono ?_
    rintro e w' h
    rw [hsA] at h
    rcases h with ⟨_, h1, h2⟩ | ⟨h1, _⟩
    ·exact ⟨h1, h2⟩
    ·have : drawsF draws = true := h1
     rw [hD] at this; cases this
   refine (rload_no _ _ _ _ w 1 (by decide) hN').mono ?_
   rintro e w' ⟨rfl, hb⟩
   exact ⟨none, rfl, hb, fun _ => rfl, fun h => by cases h⟩
  ·have hr : resE (E : Int) ks draws l = loadE E ks.length draws.length l := by simp [resE, hk, hD]
   have hs : resS (E : Int) ks draws l = (kerRF E ks.length draws.length (openL l)).2.1 := by simp [resS]
   obtain ⟨q1, q2⟩ := loadL_eq E ks draws l hk8 he (draws_facts hD) hv
   rw [hr, hs]
   refine (rload_any E b off cap dv ks draws l w hk8 hbw hK hd hk hD he (draws_facts hD) hv hll).mono ?_
   rintro e w' ⟨hb, h⟩
   rw [q1] at h
   rcases h with ⟨h0, rb, R, rfl, r1, r2, r3, r4⟩ | ⟨h0, rfl⟩
   ·obtain ⟨s1, s2, s3⟩ := q2 h0
    rw [s1] at r4 s2 s3
    rw [h0]
    exact ⟨some ⟨rb, 0, none⟩, rfl, hb, fun h => absurd rfl h, fun _ => ⟨s2, s3, by first | rfl | exact hk, by first | rfl | exact hD, rb, R, rfl, r1, r2, r3, r4⟩⟩
   ·exact ⟨none, rfl, hb, fun _ => rfl, fun h => absurd h h0⟩
 ·have hr : resE ents ks draws l = 2 := by simp [resE, hk]
  have hbA := alloc_below w (.cells #[.int .i64 ents, .slice (some ka) ks.length cap] 38)
  have hsA : (w.alloc (.cells #[.int .i64 ents, .slice (some ka) ks.length cap] 38)).heap.size = w.heap.size + 1 := by simp
  rw [hr]
  have hV : KindsV (w.heap.size + 1) (w.alloc (.cells #[.int .i64 ents, .slice (some ka) ks.length cap] 38)) (.slice (some ka) ks.length cap) ks := ((kindsV_gen hka hl hbw hK).below hbA).mono (by omega)
  have hN := rNew_model ents (.slice (some ka) ks.length cap) dv ks (w.alloc (.cells #[.int .i64 ents, .slice (some ka) ks.length cap] 38)) (by rw [hsA]; exact hV) p hk
  rw [hsA] at hN
  refine (rload_no _ _ _ _ w 2 (by decide) hN).mono ?_
  rintro e w' ⟨rfl, hb⟩
  exact ⟨none, rfl, hb, fun _ => rfl, fun h => by cases h⟩
def LentZ (lo : Nat) (w : World) (ba : Option Addr) (bc : Nat) (l : List Int) : Prop :=
 (ba = none ∧ bc = 0 ∧ l = []) ∨ ∃ g, ba = some ⟨g, 0, none⟩ ∧ bc = l.length + 8 ∧ lo ≤ g ∧ g < w.heap.size ∧ RowAt w g 0 (lentY l) ∧ Room w g (l.length + 8)
theorem LentZ.below {lo : Nat} {w w' : World} {ba : Option Addr} {bc : Nat} {l : List Int} (h : LentZ lo w ba bc l) (hb : Below w.heap.size w w') : LentZ lo w' ba bc l := by
 rcases h with h | ⟨g, h1, h2, h3, h4, h5, h6⟩
 ·exact .inl h
 ·exact .inr ⟨g, h1, h2, h3, Nat.lt_of_lt_of_le h4 hb.size, h5.below hb h4, h6.below hb h4⟩
theorem LentZ.only {S : Nat → Prop} {lo : Nat} {w w' : World} {ba : Option Addr} {bc : Nat} {l : List Int} (h : LentZ lo w ba bc l) (ho : Only S w w') (hS : ∀ b, lo ≤ b → ¬ S b) : LentZ lo w' ba bc l := by
 rcases h with h | ⟨g, h1, h2, h3, h4, h5, h6⟩
 ·exact .inl h
 ·exact .inr ⟨g, h1, h2, h3, Nat.lt_of_lt_of_le h4 ho.size, h5.only ho (hS g h3), h6.only ho (hS g h3)⟩
theorem LentZ.bytes {lo : Nat} {w : World} {ba : Option Addr} {bc : Nat} {l : List Int} (h : LentZ lo w ba bc l) (hv : ∀ c ∈ l, 0 ≤ c ∧ c < 256) (hl : l.length ≤ 1000000000) : BytesV w ba bc l := by
 rcases h with ⟨rfl, rfl, rfl⟩ | ⟨g, rfl, rfl, h3, h4, h5, h6⟩
 ·exact ⟨by simp, by simp, by simp, fun h8 => by simp at h8⟩
 ·refine ⟨by omega, by omega, hv, fun _ => ⟨g, 0, rfl, ?_, h4⟩⟩
  intro j v hvj
  have hj : j < l.length := by have := (List.getElem?_eq_some_iff.1 hvj).1; simpa [byteV] using this
  refine h5 j v ?_
  rw [lentY_elem l j hj]
  simpa [byteV, hj] using hvj
theorem lentBytes_any (l : List Int) (raw : Int) (w : World) (hl : l.length ≤ 1000000000) (hv : ∀ c ∈ l, 0 ≤ c ∧ c < 256) :
  Calls Tryz.prog 30 #[.string (strW l), .int .i64 raw] w fun e w' => ∃ ba bc, e = .returned (.slice ba l.length bc) ∧ Below w.heap.size w w' ∧ LentZ w.heap.size w' ba bc l := by
 by_cases hn : l = [] ∧ Int.tmod raw 2 ≠ 0
 ·obtain ⟨rfl, hr⟩ := hn
  refine (lentBytes_nil raw w hr).mono ?_
  rintro e w' ⟨rfl, rfl⟩
  exact ⟨none, 0, rfl, Below.refl _ _, .inl ⟨rfl, rfl, rfl⟩⟩
 ·refine (lentBytes_some l raw w hl hv hn).mono ?_
  rintro e w' ⟨g, h1, h2, rfl, hb, h3, h4⟩
  exact ⟨_, _, rfl, hb, .inr ⟨g, rfl, rfl, h1, h2, h3, h4⟩⟩
theorem wholeBytes_any (lo hi : Nat) (l : List Int) (ba : Option Addr) (bc : Nat) (w : World) (hl : l.length ≤ 1000000000) (hv : ∀ c ∈ l, 0 ≤ c ∧ c < 256) (h : LentZ lo w ba bc l) (hhi : ∀ g, ba = some ⟨g, 0, none⟩ → g < hi) :
  Calls Tryz.prog 33 #[.slice ba l.length bc, .string (strW l)] w fun e w' => e = .returned (.bool true) ∧ Only (fun b => lo ≤ b ∧ b < hi) w w' := by
 rcases h with ⟨rfl, rfl, rfl⟩ | ⟨g, rfl, rfl, h3, h4, h5, h6⟩
 ·refine (wholeBytes_nil _ w).mono ?_
  rintro e w' ⟨rfl, rfl⟩
  exact ⟨rfl, Only.refl _ _⟩
 ·refine (wholeBytes_some g l w hl hv h5 h6).mono ?_
  rintro e w' ⟨rfl, ho⟩
  exact ⟨rfl, ho.mono (fun b _ hb => by have := hhi g rfl; omega)⟩
theorem made_load {base : Nat} (wb : Nat) (lv : Value) (ps : List Pair) (bk : BookD) (a b c d ents : Int) (ka : Addr) (kb koff kcap : Nat) (ks : List (List Ins)) (l : Value) (draws : List Int) (rv qv : Value) (bl : List Int) (w : World) (h : Inv base w wb lv ps bk) (hka : 0 < ks.length → ka = ⟨kb, koff, none⟩) (hkl : ks.length ≤ 5864062014805) (hkb : kb < base) (hK : KindsAt base w kb koff ks) (hd : IntsX base w l draws) (hv : ∀ c ∈ bl, 0 ≤ c ∧ c < 256) (hbl8 : bl.length ≤ 1000000000) (hlen : (ps.length + 1) * 16 ≤ 140737488355328) :
  Calls Tryz.prog 15 #[.pointer (some ⟨wb, 0, none⟩), .agg #[.int .i64 8, .int .i64 a, .int .i64 b, .int .i64 c, .int .i64 d, .int .i64 ents, .slice (some ka) ks.length kcap, l, rv, qv, .string (strW bl)]] w
   fun e w' => e = .returned (.bool true) ∧ Below base w w' ∧ ∃ lv' ps', ps'.length ≤ ps.length + 1 ∧ Inv base w' wb lv' ps' bk := by
 have hbl : base ≤ w.heap.size := Nat.le_trans h.blo (Nat.le_of_lt h.wlt)
 obtain ⟨W, hW⟩ : ∃ W, W = w.alloc (.cells #[.int .i64 8, .int .i64 a, .int .i64 b, .int .i64 c, .int .i64 d, .int .i64 ents, .slice (some ka) ks.length kcap, l, rv, qv, .string (strW bl)] 41) := ⟨_, rfl⟩
 have hb : Below w.heap.size w W := by rw [hW]; exact (Below.refl _ _).alloc (Nat.le_refl _) _
 have hWs : W.heap.size = w.heap.size + 1 := by rw [hW]; simp
 have c0 : W.cell? ⟨w.heap.size, 0, none⟩ = some (.int .i64 8) := by rw [hW]; simp [go_sem]
 have c2 : W.cell? ⟨w.heap.size, 2, none⟩ = some (.int .i64 b) := by rw [hW]; simp [go_sem]
 have c5 : W.cell? ⟨w.heap.size, 5, none⟩ = some (.int .i64 ents) := by rw [hW]; simp [go_sem]
 have c6 : W.cell? ⟨w.heap.size, 6, none⟩ = some (.slice (some ka) ks.length kcap) := by rw [hW]; simp [go_sem]
 have c7 : W.cell? ⟨w.heap.size, 7, none⟩ = some l := by rw [hW]; simp [go_sem]
 have cS : W.cell? ⟨w.heap.size, 10, none⟩ = some (.string (strW bl)) := by rw [hW]; simp [go_sem]
 obtain ⟨la, lc, rfl⟩ := hd.form
 have HK : Hid (∀ W : World, Below w.heap.size w W → KindsAt W.heap.size W kb koff ks) := by
  intro W hW
  have := hW.size
  exact (hK.below (hW.mono hbl) hkb (Nat.le_refl _)).mono (by omega)
 have HD : Hid (∀ W : World, Below w.heap.size w W → IntsX base W (.slice la draws.length lc) draws) := by
  intro W hW
  exact hd.below (hW.mono hbl)
 have hdl := hd.len
 have Hdl := hide hdl
 have Hv := hide hv
 have Hbl8 := hide hbl8
 clear hd hK hdl hv hbl8
 go_enter Tryz.func15, Tryz.ntmps15
 go_wp2_with fail
 rw [← hW]
 refine (lentModel_gen ents ka kb koff kcap ks _ hka hkl (by omega) (HK.out W hb)).mono ?_
 rintro e w1 ⟨g, hh, rs, rfl, hb1, hL1⟩
 have hz1 := hb1.size
 have d0 := below_at hb1 c0 (by omega)
 have d2 := below_at hb1 c2 (by omega)
 have d5 := below_at hb1 c5 (by omega)
 have d6 := below_at hb1 c6 (by omega)
 have d7 := below_at hb1 c7 (by omega)
 have dS := below_at hb1 cS (by omega)
 have hB1 : Below w.heap.size w w1 := hb.trans (hb1.mono (by omega))
 have hlt1 : w.heap.size < w1.heap.size := by omega
 have HL1 := hide hL1
 clear c0 c2 c5 c6 c7 cS hW hL1
 go_wp2_with fail
 have hm := (Below.refl w1.heap.size w1).alloc (Nat.le_refl _) (.cells #[.int .i64 ents, .slice (some ⟨g, 0, none⟩) ks.length (ks.length + 8)] 38)
 have HLm := hide (HL1.out.below hm)
 refine (lentInts_any _ draws _ (HD.out _ (hB1.trans (hm.mono (by omega))))).mono ?_
 rintro e w2 ⟨sa, sc, rfl, hb2, hLV⟩
 have hz2 := hb2.size
 rw [World.size_alloc] at hz2
 have e0 := below_at hb2 (below_at hm d0 (by omega)) (by simp; omega)
 have e2 := below_at hb2 (below_at hm d2 (by omega)) (by simp; omega)
 have e5 := below_at hb2 (below_at hm d5 (by omega)) (by simp; omega)
 have e6 := below_at hb2 (below_at hm d6 (by omega)) (by simp; omega)
 have e7 := below_at hb2 (below_at hm d7 (by omega)) (by simp; omega)
 have eS := below_at hb2 (below_at hm dS (by omega)) (by simp; omega)
 have m0 : w2.cell? ⟨w1.heap.size, 0, none⟩ = some (.int .i64 ents) := below_at hb2 (by simp [go_sem]) (by simp)
 have m1 : w2.cell? ⟨w1.heap.size, 1, none⟩ = some (.slice (some ⟨g, 0, none⟩) ks.length (ks.length + 8)) := below_at hb2 (by simp [go_sem]) (by simp)
 have hB2 : Below w.heap.size w w2 := hB1.trans ((hm.mono (by omega)).trans (hb2.mono (by simp; omega)))
 have HL2 := hide (HLm.out.below hb2)
 have HLV := hide hLV
 rw [World.size_alloc] at HLV
 clear d0 d2 d5 d6 d7 dS hLV
 go_wp2_with fail
 refine (lentBytes_any bl b _ Hbl8.out Hv.out).mono ?_
 rintro e wz ⟨za, zc, rfl, hbz, hLZ⟩
 have hzz := hbz.size
 have e5 := below_at hbz e5 (by omega)
 have e6 := below_at hbz e6 (by omega)
 have e7 := below_at hbz e7 (by omega)
 have eS := below_at hbz eS (by omega)
 have m0 := below_at hbz m0 (by omega)
 have m1 := below_at hbz m1 (by omega)
 have hBz : Below w.heap.size w wz := hB2.trans (hbz.mono (by omega))
 have HL2 := hide (HL2.out.below hbz)
 have HLVz := hide (HLV.out.below hbz)
 have HLZ := hide hLZ
 clear e0 e2 hLZ
 go_wp2_with fail
 have HT := tload_all ents g 0 (ks.length + 8) (.slice sa draws.length sc) ks draws za zc bl wz hkl HL2.out.ghi HL2.out.kinds (HLVz.out.ints Hdl.out) (HLZ.out.bytes Hv.out Hbl8.out)
 obtain ⟨E, hE⟩ : ∃ E, E = resE ents ks draws bl := ⟨_, rfl⟩
 rw [← hE] at HT
 refine HT.mono ?_
 rintro e w3 ⟨pk, rfl, hb3, hk1, hk2⟩
 have Hk1 := hide hk1
 have Hk2 := hide hk2
 have hz3 := hb3.size
 have f5 := below_at hb3 e5 (by omega)
 have f6 := below_at hb3 e6 (by omega)
 have f7 := below_at hb3 e7 (by omega)
 have fS := below_at hb3 eS (by omega)
 have n0 := below_at hb3 m0 (by omega)
 have n1 := below_at hb3 m1 (by omega)
 have hB3 : Below w.heap.size w w3 := hBz.trans (hb3.mono (by omega))
 have HL3 := hide (HL2.out.below hb3)
 clear e5 e6 e7 eS m0 m1 HT hk1 hk2
 go_wp2_with fail
 have HT := rload_all ents ka kb koff kcap (.slice la draws.length lc) ks draws bl w3 hka hkl (by omega) (HK.out _ hB3) ((HD.out _ hB3).mono (by omega)) Hv.out Hbl8.out
 rw [← hE] at HT
 refine HT.mono ?_
 rintro e w4 ⟨pr, rfl, hb4, hr1, hr2⟩
 have Hr1 := hide hr1
 have Hr2 := hide hr2
 have hz4 := hb4.size
 have g5 := below_at hb4 f5 (by omega)
 have g6 := below_at hb4 f6 (by omega)
 have g7 := below_at hb4 f7 (by omega)
 have gS := below_at hb4 fS (by omega)
 have p0 := below_at hb4 n0 (by omega)
 have p1 := below_at hb4 n1 (by omega)
 have hB4 : Below w.heap.size w w4 := hB3.trans (hb4.mono (by omega))
 have HL4 := hide (HL3.out.below hb4)
 clear f5 f6 f7 fS n0 n1 HT hr1 hr2
 go_wp2_with fail
 refine (wholeModel_gen ents ka _ _ g hh kb koff kcap rs ks _ hka hkl HL4.out).mono ?_
 rintro e w5 ⟨rfl, ho5⟩
 have HS5 : Hid (∀ k, (k = g ∨ ∃ i : Nat, rs[i]? = some (some k)) → w.heap.size + 1 < k ∧ k < w1.heap.size) := by
  rintro k (rfl | ⟨i, hi⟩)
  ·have := HL1.out.glo; have := HL1.out.ghi; omega
  ·have hilt : i < ks.length := by have := (List.getElem?_eq_some_iff.1 hi).1; rw [HL1.out.len] at this; exact this
   have := HL1.out.code i k ks[i] hi (by simp [hilt]); omega
 have hz5 := ho5.size
 have q7 := ho5.at g7 (fun hs => by have := HS5.out _ hs; omega)
 have qS := ho5.at gS (fun hs => by have := HS5.out _ hs; omega)
 have hB5 : Below w.heap.size w w5 := hB4.trans (ho5.below (by omega) (fun k hk hs => by have := HS5.out _ hs; omega))
 have HLV5 := hide (((HLVz.out.below hb3).below hb4).only ho5 (fun k hk hs => by have := HS5.out _ hs; omega))
 have HLZ5 := hide (((HLZ.out.below hb3).below hb4).only ho5 (fun k hk hs => by have := HS5.out _ hs; omega))
 have Ho5 := hide ho5
 clear g5 g6 g7 gS p0 p1 ho5
 go_wp2_with fail
 refine (wholeInts_any (w1.heap.size + 1) w2.heap.size _ draws sa sc _ ((HD.out _ hB5).mono (by omega)) HLV5.out (by
  intro g hg
  rcases HLV.out with ⟨_, h0, _⟩ | ⟨g', h1, _, _, _, h5, _⟩
  ·rw [h0] at hg; cases hg
  ·rw [h1] at hg; simp at hg; omega)).mono ?_
 rintro e w6 ⟨rfl, ho6⟩
 have hB6 : Below w.heap.size w w6 := hB5.trans (ho6.below (by omega) (by intro k hk hs; omega))
 have qS := ho6.at qS (fun hs => by omega)
 have HLZ6 := hide (HLZ5.out.only ho6 (by intro k hk hs; omega))
 have Ho6 := hide ho6
 have hz6 := ho6.size
 clear ho6 q7
 go_wp2_with fail
 refine (wholeBytes_any w2.heap.size wz.heap.size bl za zc _ Hbl8.out Hv.out HLZ6.out (by
  intro g hg
  rcases HLZ.out with ⟨h0, _⟩ | ⟨g', h1, _, _, h5, _⟩
  ·rw [h0] at hg; cases hg
  ·rw [h1] at hg; simp at hg; omega)).mono ?_
 rintro e w7 ⟨rfl, ho7⟩
 have hB7 : Below w.heap.size w w7 := hB6.trans (ho7.below (by omega) (by intro k hk hs; omega))
 have Ho7 := hide ho7
 have hz7 := ho7.size
 clear ho7 qS
 go_wp2_with fail
 by_cases h0 : E = 0
 ·obtain ⟨xk, xq, xm, ov, R, xb, rfl, ⟨b1, b2⟩, hset, hR, hPk⟩ := Hk2.out h0
  obtain ⟨s1, s2, s3, s4, xr, Q, rfl, y1, y2, hQ, hPr⟩ := Hr2.out h0
  have hlt3 := hPk.lt
  have hrlt3 := hPk.rlt
  obtain ⟨p, hp⟩ : ∃ p : Pair, p = ⟨xk, xq, xm, xr, xb, ov, ents, ks, draws, resS ents ks draws bl, R, Q⟩ := ⟨_, rfl⟩
  have hset : ∀ x, KSet xk xq xm ov x → wz.heap.size ≤ x ∧ x < w3.heap.size := fun x hx => ⟨by have := hset x hx; omega, hlt3 x hx⟩
  have hown : ∀ x, p.own x → wz.heap.size ≤ x ∧ x < w4.heap.size := by
   rw [hp]
   rintro x ((hx | hx) | hx | hx)
   ·have := hset x hx; omega
   ·have hx : x = xr := hx; omega
   ·have hx : R x := hx
    have := hR x hx; have := hrlt3 x hx; omega
   ·have hx : Q x := hx
    have := hQ x hx; omega
  have hpair : PairOK w7 p := by
   have h4 : PairOK w4 p := by
    rw [hp]
    refine ⟨hPk.below hb4, hPr, s1, s2, s3, s4, by show xb ≤ _; omega, by show xr < _; omega, ?_, ?_, ?_⟩
    ·intro x hx
     have hx : Q x := hx
     have := hQ x hx
     exact ⟨this.2.1, this.2.2, fun hc => by have := hset x hc; omega⟩
    ·intro x hx
     have hx : R x := hx
     have := hrlt3 x hx
     show x ≠ xr; omega
    ·intro hc
     have := hset xr hc; omega
   refine ((h4.only Ho5.out ?_).only Ho6.out ?_).only Ho7.out ?_
   ·intro x hx hs; have := HS5.out x hs; have := hown x hx; omega
   ·intro x hx hs; have := hown x hx; omega
   ·intro x hx hs; have := hown x hx; omega
  have hkb : p.kb = xk := by rw [hp]
  have hrb : p.rb = xr := by rw [hp]
  have H1 := one_some (base := base) (w0 := w) wb lv ps p bk _ h hB7 hpair (fun x hx => by have := hown x hx; omega) hlen hbl
  rw [hkb, hrb] at H1
  refine H1.mono ?_
  rintro e w8 ⟨rfl, hB8, lv', hI8⟩
  have HI8 := hide hI8
  clear hI8 hpair hown hset hlt3 hrlt3 H1 hPk hPr hQ hR s1 s2 s3 s4
  go_wp2
  go_ret
  exact ⟨by simp, hB8, lv', _, by simp, HI8.out⟩
 ·obtain rfl := Hk1.out h0
  obtain rfl := Hr1.out h0
  refine (one_none wb _).mono ?_
  rintro e w8 ⟨rfl, rfl⟩
  go_wp2
  go_ret
  exact ⟨by simp, hB7.mono hbl, lv, ps, by omega, h.below hB7⟩
theorem made_load_nil {base : Nat} (wb : Nat) (lv : Value) (ps : List Pair) (bk : BookD) (a b c d ents : Int) (l : Value) (draws : List Int) (rv qv : Value) (bl : List Int) (w : World) (h : Inv base w wb lv ps bk) (hd : IntsX base w l draws) (hv : ∀ c ∈ bl, 0 ≤ c ∧ c < 256) (hbl8 : bl.length ≤ 1000000000) :
  Calls Tryz.prog 15 #[.pointer (some ⟨wb, 0, none⟩), .agg #[.int .i64 8, .int .i64 a, .int .i64 b, .int .i64 c, .int .i64 d, .int .i64 ents, .slice none 0 0, l, rv, qv, .string (strW bl)]] w
   fun e w' => e = .returned (.bool true) ∧ Below base w w' ∧ ∃ lv' ps', ps'.length ≤ ps.length + 1 ∧ Inv base w' wb lv' ps' bk := by
 have hbl : base ≤ w.heap.size := Nat.le_trans h.blo (Nat.le_of_lt h.wlt)
 obtain ⟨W, hW⟩ : ∃ W, W = w.alloc (.cells #[.int .i64 8, .int .i64 a, .int .i64 b, .int .i64 c, .int .i64 d, .int .i64 ents, .slice none 0 0, l, rv, qv, .string (strW bl)] 41) := ⟨_, rfl⟩
 have hb : Below w.heap.size w W := by rw [hW]; exact (Below.refl _ _).alloc (Nat.le_refl _) _
 have hWs : W.heap.size = w.heap.size + 1 := by rw [hW]; simp
 have c0 : W.cell? ⟨w.heap.size, 0, none⟩ = some (.int .i64 8) := by rw [hW]; simp [go_sem]
 have c2 : W.cell? ⟨w.heap.size, 2, none⟩ = some (.int .i64 b) := by rw [hW]; simp [go_sem]
 have c5 : W.cell? ⟨w.heap.size, 5, none⟩ = some (.int .i64 ents) := by rw [hW]; simp [go_sem]
 have c6 : W.cell? ⟨w.heap.size, 6, none⟩ = some (.slice none 0 0) := by rw [hW]; simp [go_sem]
 have c7 : W.cell? ⟨w.heap.size, 7, none⟩ = some l := by rw [hW]; simp [go_sem]
 have cS : W.cell? ⟨w.heap.size, 10, none⟩ = some (.string (strW bl)) := by rw [hW]; simp [go_sem]
 obtain ⟨la, lc, rfl⟩ := hd.form
 have HD : Hid (∀ W : World, Below w.heap.size w W → IntsX base W (.slice la draws.length lc) draws) := by
  intro W hW
  exact hd.below (hW.mono hbl)
 have Hv := hide hv
 have Hbl8 := hide hbl8
 clear hd hv hbl8
 have hkn : ∀ (W : World) (B : Nat), KindsV B W (.slice none 0 0) [] := fun W B => ⟨by simp, .inl ⟨rfl, rfl⟩⟩
 go_enter Tryz.func15, Tryz.ntmps15
 go_wp2_with fail
 rw [← hW]
 refine (lentModel_nil ents _).mono ?_
 rintro e w1 ⟨rfl, hb1⟩
 have hz1 := hb1.size
 have d0 := below_at hb1 c0 (by omega)
 have d2 := below_at hb1 c2 (by omega)
 have d5 := below_at hb1 c5 (by omega)
 have d6 := below_at hb1 c6 (by omega)
 have d7 := below_at hb1 c7 (by omega)
 have dS := below_at hb1 cS (by omega)
 have hB1 : Below w.heap.size w w1 := hb.trans (hb1.mono (by omega))
 have hlt1 : w.heap.size < w1.heap.size := by omega
 clear c0 c2 c5 c6 c7 cS hW
 go_wp2_with fail
 have hm := (Below.refl w1.heap.size w1).alloc (Nat.le_refl _) (.cells #[.int .i64 ents, .slice none 0 0] 38)
 refine (lentInts_any _ draws _ (HD.out _ (hB1.trans (hm.mono (by omega))))).mono ?_
 rintro e w2 ⟨sa, sc, rfl, hb2, hLV⟩
 have hz2 := hb2.size
 rw [World.size_alloc] at hz2
 have e0 := below_at hb2 (below_at hm d0 (by omega)) (by simp; omega)
 have e2 := below_at hb2 (below_at hm d2 (by omega)) (by simp; omega)
 have e5 := below_at hb2 (below_at hm d5 (by omega)) (by simp; omega)
 have e6 := below_at hb2 (below_at hm d6 (by omega)) (by simp; omega)
 have e7 := below_at hb2 (below_at hm d7 (by omega)) (by simp; omega)
 have eS := below_at hb2 (below_at hm dS (by omega)) (by simp; omega)
 have m0 : w2.cell? ⟨w1.heap.size, 0, none⟩ = some (.int .i64 ents) := below_at hb2 (by simp [go_sem]) (by simp)
 have m1 : w2.cell? ⟨w1.heap.size, 1, none⟩ = some (.slice none 0 0) := below_at hb2 (by simp [go_sem]) (by simp)
 have hB2 : Below w.heap.size w w2 := hB1.trans ((hm.mono (by omega)).trans (hb2.mono (by simp; omega)))
 have HLV := hide hLV
 rw [World.size_alloc] at HLV
 clear d0 d2 d5 d6 d7 dS hLV
 go_wp2_with fail
 refine (lentBytes_any bl b _ Hbl8.out Hv.out).mono ?_
 rintro e wz ⟨za, zc, rfl, hbz, hLZ⟩
 have hzz := hbz.size
 have e5 := below_at hbz e5 (by omega)
 have e6 := below_at hbz e6 (by omega)
 have e7 := below_at hbz e7 (by omega)
 have eS := below_at hbz eS (by omega)
 have m0 := below_at hbz m0 (by omega)
 have m1 := below_at hbz m1 (by omega)
 have hBz : Below w.heap.size w wz := hB2.trans (hbz.mono (by omega))
 have HLVz := hide (HLV.out.below hbz)
 have HLZ := hide hLZ
 clear e0 e2 hLZ
 go_wp2_with fail
 have HN := tNew_model (B := 0) ents (.slice none 0 0) (.slice sa draws.length sc) [] (wz.alloc (.cells #[.int .i64 ents, .slice none 0 0] 38)) (hkn _ _) (0, 0) (kindF_nil ents)
 rw [World.size_alloc] at HN
 refine (tload_no _ _ _ (.slice za bl.length zc) wz 2 (by decide) HN).mono ?_
 rintro e w3 ⟨rfl, hb3⟩
 have hz3 := hb3.size
 have f5 := below_at hb3 e5 (by omega)
 have f6 := below_at hb3 e6 (by omega)
 have f7 := below_at hb3 e7 (by omega)
 have fS := below_at hb3 eS (by omega)
 have n0 := below_at hb3 m0 (by omega)
 have n1 := below_at hb3 m1 (by omega)
 have hB3 : Below w.heap.size w w3 := hBz.trans (hb3.mono (by omega))
 clear e5 e6 e7 eS m0 m1 HN
 go_wp2_with fail
 have HN := rNew_model ents (.slice none 0 0) (.slice la draws.length lc) [] (w3.alloc (.cells #[.int .i64 ents, .slice none 0 0] 38)) (hkn _ _) (0, 0) (kindF_nil ents)
 rw [World.size_alloc] at HN
 refine (rload_no _ _ _ (strW bl) w3 2 (by decide) HN).mono ?_
 rintro e w4 ⟨rfl, hb4⟩
 have hz4 := hb4.size
 have g5 := below_at hb4 f5 (by omega)
 have g6 := below_at hb4 f6 (by omega)
 have g7 := below_at hb4 f7 (by omega)
 have gS := below_at hb4 fS (by omega)
 have p0 := below_at hb4 n0 (by omega)
 have p1 := below_at hb4 n1 (by omega)
 have hB4 : Below w.heap.size w w4 := hB3.trans (hb4.mono (by omega))
 clear f5 f6 f7 fS n0 n1 HN
 go_wp2_with fail
 refine (wholeModel_nil ents _ _ _).mono ?_
 rintro e w5 ⟨rfl, hb5⟩
 have hz5 := hb5.size
 have q7 := below_at hb5 g7 (by omega)
 have qS := below_at hb5 gS (by omega)
 have hB5 : Below w.heap.size w w5 := hB4.trans (hb5.mono (by omega))
 have HLV5 := hide (((HLVz.out.below hb3).below hb4).below hb5)
 have HLZ5 := hide (((HLZ.out.below hb3).below hb4).below hb5)
 clear g5 g6 g7 gS p0 p1
 go_wp2_with fail
 refine (wholeInts_any (w1.heap.size + 1) w2.heap.size _ draws sa sc _ ((HD.out _ hB5).mono (by omega)) HLV5.out (by
  intro g hg
  rcases HLV.out with ⟨_, h0, _⟩ | ⟨g', h1, _, _, _, h5, _⟩
  ·rw [h0] at hg; cases hg
  ·rw [h1] at hg; simp at hg; omega)).mono ?_
 rintro e w6 ⟨rfl, ho6⟩
 have hB6 : Below w.heap.size w w6 := hB5.trans (ho6.below (by omega) (by intro k hk hs; omega))
 have qS := ho6.at qS (fun hs => by omega)
 have HLZ6 := hide (HLZ5.out.only ho6 (by intro k hk hs; omega))
 have hz6 := ho6.size
 clear ho6 q7
 go_wp2_with fail
 refine (wholeBytes_any w2.heap.size wz.heap.size bl za zc _ Hbl8.out Hv.out HLZ6.out (by
  intro g hg
  rcases HLZ.out with ⟨h0, _⟩ | ⟨g', h1, _, _, h5, _⟩
  ·rw [h0] at hg; cases hg
  ·rw [h1] at hg; simp at hg; omega)).mono ?_
 rintro e w7 ⟨rfl, ho7⟩
 have hB7 : Below w.heap.size w w7 := hB6.trans (ho7.below (by omega) (by intro k hk hs; omega))
 clear ho7 qS
 go_wp2_with fail
 refine (one_none wb _).mono ?_
 rintro e w8 ⟨rfl, rfl⟩
 go_wp2
 go_ret
 exact ⟨by simp, hB7.mono hbl, lv, ps, by omega, h.below hB7⟩
end Go.Proofs.YtndlmgocldckfaaGreat
