import Derived.Test.YtndlmgocldckfaaKpH
namespace Go.Proofs.Ytndlmgocldckfaa
open Go.RowKit
set_option linter.unusedVariables false
set_option linter.unusedSimpArgs false

abbrev PlanR := Int × Int × Int

def plansF (ents : Int) (nk : Nat) (P : List PlanR) (s : KS) : KS := P.foldl (fun s p => planS s (pickF p.1 50) (pickF p.2.1 nk) (pickF p.2.2 ents)) s
def begunF (L : List Int) (P : List PlanR) : KS := plansF (entsF L) (kindsF L).length (P.take 16) ks0

theorem plansF_facts {ents : Int} {ks : List (List Ins)} {draws : List Int} (he : 1 ≤ ents) (hk : 1 ≤ ks.length) : ∀ (P : List PlanR) (s : KS), Fit ents ks draws s → s.clock = 0 → s.q.length + P.length ≤ 16 → s.next + P.length ≤ 1000000000 →
    Fit ents ks draws (plansF ents ks.length P s) ∧ (plansF ents ks.length P s).clock = 0 ∧ (plansF ents ks.length P s).q.length = s.q.length + P.length ∧ (plansF ents ks.length P s).next = s.next + P.length
  | [], s, h, hc, hq, hn => by simp [plansF, h, hc]
  | p :: P, s, h, hc, hq, hn => by
    simp only [List.length_cons] at hq hn
    have h1 := pickF_lt p.1 (n := 50) (by omega)
    have h2 := pickF_lt p.2.1 (n := (ks.length : Int)) (by omega)
    have h3 := pickF_lt p.2.2 (n := ents) (by omega)
    have hf := plan_fit (t := pickF p.1 50) (k := pickF p.2.1 ks.length) (e := pickF p.2.2 ents) h (by simp [argF, inB]; omega) (by omega)
    obtain ⟨r1, r2, r3, r4⟩ := plansF_facts he hk P _ hf (by simpa [planS] using hc) (by simp [planS, insF_length]; omega) (by simp [planS]; omega)
    refine ⟨r1, r2, ?_, ?_⟩
    · rw [show plansF ents ks.length (p :: P) s = plansF ents ks.length P (planS s (pickF p.1 50) (pickF p.2.1 ks.length) (pickF p.2.2 ents)) from rfl, r3]
      simp [planS, insF_length]; omega
    · rw [show plansF ents ks.length (p :: P) s = plansF ents ks.length P (planS s (pickF p.1 50) (pickF p.2.1 ks.length) (pickF p.2.2 ents)) from rfl, r4]
      simp [planS]; omega

theorem begunF_facts (L D : List Int) (P : List PlanR) : Fit (entsF L) (kindsF L) (rdrawsF D) (begunF L P) ∧ (begunF L P).clock = 0 ∧ (begunF L P).q.length = min 16 P.length ∧ (begunF L P).next = 1 + min 16 P.length := by
  have h1 := entsF_le L
  have h2 := nkF_le L
  have h3 := kindsF_len L
  have := plansF_facts (ents := entsF L) (ks := kindsF L) (draws := rdrawsF D) (by omega) (by omega) (P.take 16) ks0 (fit0 _ _ _) rfl (by simp [ks0]; omega) (by simp [ks0]; omega)
  simpa [ks0, begunF] using this

theorem begunF_step (L : List Int) (P : List PlanR) (i : Nat) (hi : i < P.length) (h16 : i < 16) :
    begunF L (P.take (i + 1)) = planS (begunF L (P.take i)) (pickF P[i].1 50) (pickF P[i].2.1 (kindsF L).length) (pickF P[i].2.2 (entsF L)) := by
  unfold begunF
  rw [List.take_of_length_le (l := P.take (i + 1)) (by simp; omega), List.take_of_length_le (l := P.take i) (by simp; omega), List.take_succ_eq_append_getElem hi]
  simp only [plansF, List.foldl_append, List.foldl_cons, List.foldl_nil]

/-- Numbers that are handed in, as they lie. -/
def RawL (w : World) (sa : Option Addr) (L : List Int) : Prop :=
  L.length ≤ 17592186044416 ∧ (∀ c ∈ L, -9223372036854775808 ≤ c ∧ c ≤ 9223372036854775807) ∧ ∀ i (h : i < L.length), ∃ b off, sa = some ⟨b, off, none⟩ ∧ w.cell? ⟨b, off + i, none⟩ = some (.int .i64 L[i])
def I64 (c : Int) : Prop := -9223372036854775808 ≤ c ∧ c ≤ 9223372036854775807
def RawPl (w : World) (pa : Option Addr) (P : List PlanR) : Prop :=
  P.length ≤ 17592186044416 ∧ (∀ p ∈ P, I64 p.1 ∧ I64 p.2.1 ∧ I64 p.2.2) ∧ ∀ i (h : i < P.length), ∃ b off, pa = some ⟨b, off, none⟩ ∧ w.cell? ⟨b, off + i * 3, none⟩ = some (.int .i64 P[i].1) ∧ w.cell? ⟨b, off + i * 3 + 1, none⟩ = some (.int .i64 P[i].2.1) ∧ w.cell? ⟨b, off + i * 3 + 2, none⟩ = some (.int .i64 P[i].2.2)

theorem RawL.below {w w' : World} {sa : Option Addr} {L : List Int} (h : RawL w sa L) (hb : Below w.heap.size w w') : RawL w' sa L :=
  ⟨h.1, h.2.1, fun i hi => let ⟨b, off, h1, h2⟩ := h.2.2 i hi; ⟨b, off, h1, below_at hb h2 (lt_of_cell h2)⟩⟩
theorem RawPl.below {w w' : World} {pa : Option Addr} {P : List PlanR} (h : RawPl w pa P) (hb : Below w.heap.size w w') : RawPl w' pa P :=
  ⟨h.1, h.2.1, fun i hi => let ⟨b, off, h1, h2, h3, h4⟩ := h.2.2 i hi; ⟨b, off, h1, below_at hb h2 (lt_of_cell h2), below_at hb h3 (lt_of_cell h3), below_at hb h4 (lt_of_cell h4)⟩⟩

theorem KindsIn.at {R : Nat → Prop} {B : Nat} {w : World} {v : Value} {ks : List (List Ins)} (h : KindsIn R w v ks) (hk : 1 ≤ ks.length) (hR : ∀ b, R b → b < B) : ∃ b off cap, v = .slice (some ⟨b, off, none⟩) ks.length cap ∧ b < B ∧ KindsAt B w b off ks := by
  obtain ⟨hl, ⟨_, rfl⟩ | ⟨b, off, cap, rfl, hb, hc⟩⟩ := h
  · simp at hk
  · exact ⟨b, off, cap, rfl, hR b hb, fun i l hl => let ⟨v, h1, h2⟩ := hc i l hl; ⟨v, h1, h2.toV hR⟩⟩

structure BegR (w w' : World) (kb qb mb : Nat) (ov : Value) (R : Nat → Prop) (base : Nat) (L D : List Int) (s : KS) : Prop where
  below : Below w.heap.size w w'
  kset : ∀ b, KSet kb qb mb ov b → base ≤ b
  rset : ∀ b, R b → base ≤ b
  ker : KerP R base w' kb qb mb ov (entsF L) (kindsF L) (rdrawsF D) s
  base : w.heap.size ≤ base ∧ base ≤ w'.heap.size

set_option maxRecDepth 100000 in
set_option maxHeartbeats 4000000 in
theorem begun_any (sa da pa : Option Addr) (sc dc pc : Nat) (L D : List Int) (P : List PlanR) (w : World) (hL : RawL w sa L) (hD : RawL w da D) (hP : RawPl w pa P) :
    Calls Try.prog 9 #[.agg #[.slice sa L.length sc, .slice da D.length dc, .slice pa P.length pc]] w fun e w' => ∃ kb qb mb ov R base, e = .returned (.pointer (some ⟨kb, 0, none⟩)) ∧ BegR w w' kb qb mb ov R base L D (begunF L P) := by
  have HL := hide hL
  have HD := hide hD
  have HP := hide hP
  clear hL hD hP
  go_enter Try.func9, Try.ntmps9
  go_wp2_with fail
  obtain ⟨W0, hW0⟩ : ∃ W0, W0 = w.alloc (.cells #[.slice sa L.length sc, .slice da D.length dc, .slice pa P.length pc] 25) := ⟨_, rfl⟩
  have hb0 : Below w.heap.size w W0 := by rw [hW0]; exact (Below.refl _ _).alloc (Nat.le_refl _) _
  have hz0 : W0.heap.size = w.heap.size + 1 := by rw [hW0]; simp
  have x0 : W0.cell? ⟨w.heap.size, 0, none⟩ = some (.slice sa L.length sc) := by rw [hW0]; simp [go_sem]
  have x1 : W0.cell? ⟨w.heap.size, 1, none⟩ = some (.slice da D.length dc) := by rw [hW0]; simp [go_sem]
  have x2 : W0.cell? ⟨w.heap.size, 2, none⟩ = some (.slice pa P.length pc) := by rw [hW0]; simp [go_sem]
  rw [← hW0]
  clear hW0
  refine (works_any W0).mono ?_
  rintro e w1 ⟨rfl, hb1⟩
  have hz1 := hb1.size
  replace x0 := below_at hb1 x0 (by omega)
  replace x1 := below_at hb1 x1 (by omega)
  replace x2 := below_at hb1 x2 (by omega)
  have HB1 := hide (hb0.trans (hb1.mono (by omega)))
  clear hb0 hb1
  go_wp2_with fail
  obtain ⟨W2, hW2⟩ : ∃ W2, W2 = w1.alloc (.cells #[.slice sa L.length sc, .int .i64 0] 44) := ⟨_, rfl⟩
  have hb2 : Below w1.heap.size w1 W2 := by rw [hW2]; exact (Below.refl _ _).alloc (Nat.le_refl _) _
  have hz2 : W2.heap.size = w1.heap.size + 1 := by rw [hW2]; simp
  have HL2 := (HL.out.below HB1.out).below hb2
  have hraw : RawP W2 w1.heap.size sa sc L 0 := by
    refine ⟨by rw [hW2]; simp [go_sem], by rw [hW2]; simp [go_sem], ?_, fun i hi => ?_, by omega, HL2.1, HL2.2.1⟩
    · rw [hW2]
      intro j hj
      have : j = 0 ∨ j = 1 := by omega
      rcases this with rfl | rfl <;> simp [go_sem]
    · obtain ⟨b, off, e1, e2⟩ := HL2.2.2 i hi
      obtain ⟨b', off', e1', e2'⟩ := HL.out.2.2 i hi
      rw [e1] at e1'
      simp only [Option.some.injEq, Addr.mk.injEq] at e1'
      have := lt_of_cell e2'
      exact ⟨b, off, e1, by omega, e2⟩
  rw [← hW2]
  clear hW2
  refine (model_any w1.heap.size sa sc L W2 hraw).mono ?_
  rintro e w3 ⟨kv, rfl, ho3, hK3⟩
  have HB3 : Hid (Below w.heap.size w w3) := HB1.out.trans ((hb2.mono (by omega)).trans (ho3.below (by omega) (by intro k hk; omega)))
  have hz3 := ho3.size
  replace x1 := ho3.at (below_at hb2 x1 (by omega)) (by omega)
  replace x2 := ho3.at (below_at hb2 x2 (by omega)) (by omega)
  obtain ⟨ka, kc, rfl⟩ := hK3.form
  have HK3 := hide hK3
  clear hraw hb2 ho3 HL2 hK3 x0
  go_wp2_with fail
  have he := entsF_le L
  have hk := nkF_le L
  have hlk := kindsF_len L
  obtain ⟨W3, hW3⟩ : ∃ W3, W3 = w3.alloc (.cells #[.int .i64 (entsF L), .slice ka (kindsF L).length kc] 40) := ⟨_, rfl⟩
  have hb3 : Below w3.heap.size w3 W3 := by rw [hW3]; exact (Below.refl _ _).alloc (Nat.le_refl _) _
  have hz3' : W3.heap.size = w3.heap.size + 1 := by rw [hW3]; simp
  have m0 : W3.cell? ⟨w3.heap.size, 0, none⟩ = some (.int .i64 (entsF L)) := by rw [hW3]; simp [go_sem]
  have m1 : W3.cell? ⟨w3.heap.size, 1, none⟩ = some (.slice ka (kindsF L).length kc) := by rw [hW3]; simp [go_sem]
  replace x1 := below_at hb3 x1 (by omega)
  replace x2 := below_at hb3 x2 (by omega)
  have HBW := hide (HB3.out.trans (hb3.mono (by omega)))
  obtain ⟨kb0, koff, kcap, hkv, hkb, hKA⟩ := ((HK3.out.only (Only.new (S := fun _ => False) hb3) (by simp)).at (B := W3.heap.size) (by omega) (fun b hb => by omega))
  simp only [Value.slice.injEq] at hkv
  obtain ⟨rfl, _, rfl⟩ := hkv
  have HD3 := hide (HD.out.below HBW.out)
  have Hdr : Hid (Calls Try.prog 14 #[.slice da D.length dc] W3.drew fun e w' => ∃ v, e = .returned v ∧ Below W3.heap.size W3 w' ∧ w'.ownsRow W3.heap.size 3 1 v (rdrawsF D).length (ints (rdrawsF D))) :=
    (draws_any da dc D W3.drew HD3.out.1 HD3.out.2.1 HD3.out.2.2).mono (by rintro e w' ⟨v, rfl, hb, ho⟩; exact ⟨v, rfl, (Below.refl _ _).drew.trans hb, ho⟩)
  have HNw : Hid (∀ W4 dv, Below W3.heap.size W3 W4 → W4.ownsRow W3.heap.size 3 1 dv (rdrawsF D).length (ints (rdrawsF D)) →
      Calls Try.prog 24 #[.agg #[.int .i64 (entsF L), .slice (some ⟨kb0, koff, none⟩) (kindsF L).length kc], dv] W4 fun e w' => ∃ kb qb mb R, e = .returned (.tuple #[.pointer (some ⟨kb, 0, none⟩), .int .i64 0]) ∧ Below W3.heap.size W3 w' ∧ W3.heap.size ≤ W4.heap.size ∧ BegR w w' kb qb mb (.slice none 0 0) R W4.heap.size L D ks0) := by
    intro W4 dv hb4 hown
    have hz4 := hb4.size
    have hrl := rdrawsF_len D
    refine (tNew_yes (entsF L) kb0 koff kc dv (kindsF L) (rdrawsF D) W4 (by omega) (by omega) ((hKA.below hb4 hkb (Nat.le_refl _)).mono hz4) ((owns_ints hown (by omega)).mono (fun b hb => hb.2)) (kindsF_none L) (rdrawsF_draws D)).mono ?_
    rintro e w' ⟨kb, qb, mb, rfl, hb, r1, r2, r3, hP⟩
    have hzz := hb.size
    refine ⟨kb, qb, mb, _, rfl, hb4.trans (hb.mono hz4), hz4, HBW.out.trans ((hb4.trans (hb.mono hz4)).mono (by omega)), ?_, ?_, hP, by omega, hb.size⟩
    · rintro b (hc | hc | hc | hc)
      · omega
      · omega
      · omega
      · simp [Value.ownBlock] at hc
    · rintro b ⟨b1, _⟩; omega
  rw [← hW3]
  clear hW3 hb3 hKA HK3 HD3
  go_region_held3 (fun W' => W'.cell? ⟨w3.heap.size, 0, none⟩ = some (.int .i64 (entsF L)) ∧ W'.cell? ⟨w3.heap.size, 1, none⟩ = some (.slice (some ⟨kb0, koff, none⟩) (kindsF L).length kc) ∧ W'.cell? ⟨w.heap.size, 1, none⟩ = some (.slice da D.length dc))
    (first | go_keep | exact ⟨below_at hb4 m0 (by omega), below_at hb4 m1 (by omega), below_at hb4 x1 (by omega)⟩ | exact ⟨below_at hb5 m0 (by omega), below_at hb5 m1 (by omega), below_at hb5 x1 (by omega)⟩)
    (first | (go_at_call 14; refine Hdr.out.mono ?_; rintro e' w4 ⟨dv, rfl, hb4, hown4⟩) | (go_at_call 24; refine (HNw.out _ _ (by first | exact hb4 | exact hb4.drew) hown4).mono ?_; rintro e' w5 ⟨kb, qb, mb, R, rfl, hb5, hz5, hB5⟩))
  have hbz : w4.heap.size ≤ w5.heap.size := hB5.base.2
  have hlt3 : w3.heap.size < w4.heap.size := by have : W3.heap.size ≤ w4.heap.size := hz5; omega
  replace x2 := below_at hb5 x2 (by omega)
  replace m0 := below_at hb5 m0 (by omega)
  replace m1 := below_at hb5 m1 (by omega)
  have HB5 : Hid (BegR w w5 kb qb mb (.slice none 0 0) R w4.heap.size L D ks0) := hB5
  have hwlt : w.heap.size < w3.heap.size := by omega
  clear hb4 hb5 hown4 hB5 Hdr HNw x1
  generalize w4.heap.size = base at HB5 hlt3 hbz
  generalize w3.heap.size = mc at *
  go_wp2_with fail
  go_loopg [7] 18 (fun g s7 wr => ∃ (i : Nat) (ov : Value), s7 = .int .i64 i ∧ 17 - i + 1 ≤ g ∧ i ≤ 16 ∧ i ≤ P.length ∧ Hid (BegR w wr kb qb mb ov R base L D (begunF L (P.take i)) ∧ Below base w5 wr))
  case atStart => exact ⟨0, _, rfl, by omega, by omega, by omega, by simpa [begunF, plansF] using HB5.out, Below.refl _ _⟩
  case round =>
    obtain ⟨i, ov, rfl, hg, hi1, hi2, hI⟩ := hrel
    have y2 := below_at hI.out.2 x2 (by omega)
    have n0 := below_at hI.out.2 m0 (by omega)
    have n1 := below_at hI.out.2 m1 (by omega)
    by_cases hi : i < P.length
    · by_cases hi3 : i < 16
      · have d1 : decide ((i : Int) < (P.length : Int)) = true := by simp; omega
        have d2 : decide ((i : Int) < 16) = true := by simp; omega
        have hii : (i : Int) < (P.length : Int) := by omega
        have hw : IntKind.i64.wrap ((i : Int) + 1) = (i : Int) + 1 := by rw [IntKind.wrap_i64]; omega
        obtain ⟨pb, poff, rfl, p0, p1, p2⟩ := (HP.out.below hI.out.1.below).2.2 i hi
        have hpv := HP.out.2.1 P[i] (List.getElem_mem hi)
        have HS : Hid (begunF L (P.take (i + 1)) = planS (begunF L (P.take i)) (pickF P[i].1 50) (pickF P[i].2.1 (kindsF L).length) (pickF P[i].2.2 (entsF L))) := begunF_step L P i hi hi3
        have hfit := begunF_facts L D (P.take i)
        generalize P[i] = pp at p0 p1 p2 hpv HS
        obtain ⟨q0, q1, q2⟩ := pp
        simp only at p0 p1 p2 hpv HS
        clear x2 m0 m1
        go_wp2_with fail
        obtain ⟨W6, hW6⟩ : ∃ W6, W6 = wr.alloc (.cells #[.int .i64 q0, .int .i64 q1, .int .i64 q2] 68) := ⟨_, rfl⟩
        have hb6 : Below wr.heap.size wr W6 := by rw [hW6]; exact (Below.refl _ _).alloc (Nat.le_refl _) _
        have hz6 : W6.heap.size = wr.heap.size + 1 := by rw [hW6]; simp
        have r0 : W6.cell? ⟨wr.heap.size, 0, none⟩ = some (.int .i64 q0) := by rw [hW6]; simp [go_sem]
        have r1 : W6.cell? ⟨wr.heap.size, 1, none⟩ = some (.int .i64 q1) := by rw [hW6]; simp [go_sem]
        have r2 : W6.cell? ⟨wr.heap.size, 2, none⟩ = some (.int .i64 q2) := by rw [hW6]; simp [go_sem]
        rw [← hW6]
        have hbb := hI.out.1.base
        have hzr := hI.out.2.size
        replace n0 := below_at hb6 n0 (by omega)
        replace n1 := below_at hb6 n1 (by omega)
        obtain ⟨hf1, hf2, hf3, hf4⟩ := hfit
        have c1 := pickF_lt q0 (n := 50) (by omega)
        have c2 := pickF_lt q1 (n := ((kindsF L).length : Int)) (by omega)
        have c3 := pickF_lt q2 (n := entsF L) (by omega)
        have HPl : Hid (Calls Try.prog 22 #[.pointer (some ⟨kb, 0, none⟩), .int .i64 (pickF q0 50), .int .i64 (pickF q1 (kindsF L).length), .int .i64 (pickF q2 (entsF L))] W6.drew fun e w' => ∃ nx, e = .returned (.tuple #[.int .i64 nx, .int .i64 0]) ∧ Only (KSet kb qb mb ov) W6.drew w' ∧ ∃ ov', Moved W6 ov ov' ∧ KerP R base w' kb qb mb ov' (entsF L) (kindsF L) (rdrawsF D) (planS (begunF L (P.take i)) (pickF q0 50) (pickF q1 (kindsF L).length) (pickF q2 (entsF L)))) := by
          refine (tPlan_yes kb qb mb ov (entsF L) (kindsF L) (rdrawsF D) (begunF L (P.take i)) (pickF q0 50) (pickF q1 (kindsF L).length) (pickF q2 (entsF L)) W6.drew ((hI.out.1.ker.below hb6).below (Below.refl _ _).drew) (show base ≤ W6.heap.size by omega) hf1.ok (by omega) (by omega) (by omega) (by simp [argF, inB]; omega)).mono ?_
          rintro e' w7 ⟨ho7, ⟨hno, _⟩ | ⟨_, rfl, ov', hm, hk7⟩⟩
          · exact absurd (by rw [hf3, hf4]; simp; omega) hno
          · exact ⟨_, rfl, ho7, ov', hm, hk7⟩
        obtain ⟨hp0, hp1, hp2⟩ := hpv
        have HB6 := hide hb6
        have Hn1 : Hid (¬ KSet kb qb mb ov wr.heap.size) := fun hc => by have := hI.out.1.ker.lt _ hc; omega
        have Hn2 : Hid (¬ KSet kb qb mb ov mc) := fun hc => by have := hI.out.1.kset _ hc; omega
        have hl1 : 1 ≤ ((kindsF L).length : Int) ∧ ((kindsF L).length : Int) ≤ 8 := by omega
        have he1 := he.1
        have he2 := he.2
        have hl2 := hl1.1
        have hl3 := hl1.2
        clear hW6 hb6 y2 p0 p1 p2 hf1 hf2 hf3 hf4 c1 c2 c3 hl1 he hk hlk hii hw d1 d2
        go_region_held3 (fun W' => W'.cell? ⟨wr.heap.size, 0, none⟩ = some (.int .i64 q0) ∧ W'.cell? ⟨wr.heap.size, 1, none⟩ = some (.int .i64 q1) ∧ W'.cell? ⟨wr.heap.size, 2, none⟩ = some (.int .i64 q2) ∧ W'.cell? ⟨mc, 0, none⟩ = some (.int .i64 (entsF L)) ∧ W'.cell? ⟨mc, 1, none⟩ = some (.slice (some ⟨kb0, koff, none⟩) (kindsF L).length kc))
          (first | exact ⟨r0, r1, r2, n0, n1⟩ | exact ⟨g0, g1, g2, g3, g4⟩ | fail)
          (first | (go_at_call 10; refine (pick_any _ _ _ (by first | exact hp0 | exact hp1 | exact hp2) (by omega)).mono ?_; rintro e' w6 ⟨rfl, rfl⟩) | (go_at_call 22; refine HPl.out.mono ?_; rintro e' w7 ⟨nx, rfl, ho7, h7⟩; (have g0 := ho7.at (w := W6.drew) r0 Hn1.out); (have g1 := ho7.at (w := W6.drew) r1 Hn1.out); (have g2 := ho7.at (w := W6.drew) r2 Hn1.out); (have g3 := ho7.at (w := W6.drew) n0 Hn2.out); (have g4 := ho7.at (w := W6.drew) n1 Hn2.out)))
        have hw : IntKind.i64.wrap ((i : Int) + 1) = (i : Int) + 1 := by rw [IntKind.wrap_i64]; omega
        have hO : Only (KSet kb qb mb ov) wr w7 := (Only.new HB6.out).trans ((Only.new (Below.refl _ _).drew).trans ho7)
        have HO := hide hO
        have H7 := hide h7
        clear hO ho7 h7 g0 g1 g2 g3 g4 r0 r1 r2 n0 n1 HPl
        go_wp2_with fail
        go_roundg (17 - (i + 1) + 1)
        case measure => omega
        case rel =>
          obtain ⟨ov', hmv, hk7⟩ := H7.out
          have hz7 := HO.out.size
          have hks := hI.out.1.kset
          refine ⟨i + 1, ov', by go_num, Nat.le_refl _, by omega, by omega, ⟨?_, ?_, hI.out.1.rset, ?_, by omega, by omega⟩, ?_⟩
          · exact hI.out.1.below.trans (HO.out.below (by omega) (fun k hk hc => by have := hks k hc; omega))
          · rintro b (hc | hc | hc | hc)
            · exact hks b (.inl hc)
            · exact hks b (.inr (.inl hc))
            · exact hks b (.inr (.inr (.inl hc)))
            · rcases hmv with e | ⟨g, e, hg⟩
              · exact hks b (.inr (.inr (.inr (hc.trans e))))
              · rw [e] at hc; simp at hc; omega
          · rw [HS.out]; exact hk7
          · exact hI.out.2.trans (HO.out.below (by omega) (fun k hk hc => by have := hks k hc; omega))
      · have d1 : decide ((i : Int) < (P.length : Int)) = true := by simp; omega
        have d2 : decide ((i : Int) < 16) = false := by simp; omega
        have hq : begunF L (P.take i) = begunF L P := by
          unfold begunF
          rw [List.take_take]
          congr 2
          omega
        clear x2 m0 m1 he hk hlk
        go_wp2_with fail
        go_ret
        exact ⟨kb, qb, mb, ov, R, base, rfl, hq ▸ hI.out.1⟩
    · have d1 : decide ((i : Int) < (P.length : Int)) = false := by simp; omega
      have hq : P.take i = P := List.take_of_length_le (by omega)
      clear x2 m0 m1 he hk hlk
      go_wp2_with fail
      go_ret
      exact ⟨kb, qb, mb, ov, R, base, rfl, by have := hI.out.1; rw [hq] at this; exact this⟩
end Go.Proofs.Ytndlmgocldckfaa
