import Derived.Test.YtndlmgocldckfaaRunC
import Derived.Test.YtndlmgocldckfaaKpR
import Derived.Test.YtndlmgocldckfaaKReg
import Derived.Test.YtndlmgocldckfaaOpnA
import Derived.Test.YtndlmgocldckfaaRows
import Derived.WalkKit
import Derived.ProofKit
import Derived.OpenShut
import Derived.ChangeOld
import Derived.SizedLaws
import Derived.Below
namespace Go.Proofs.Ytndlmgocldckfaa
open Go.RowKit
set_option linter.unusedVariables false
set_option linter.unusedSimpArgs false

theorem RecsAt.below {w w' : World} {v : Value} {rs : List Rec} {b cap : Nat} (h : RecsAt w v rs b cap) (hb : Below w.heap.size w w') : RecsAt w' v rs b cap := by
  refine ⟨h.form, fun i r hr => ?_⟩
  obtain ⟨sa, sc, c0, c1, c2, c3, c4, ct⟩ := h.cells i r hr
  refine ⟨sa, sc, below_at hb c0 (lt_of_cell c0), below_at hb c1 (lt_of_cell c1), below_at hb c2 (lt_of_cell c2), below_at hb c3 (lt_of_cell c3), below_at hb c4 (lt_of_cell c4), fun k t ht => ?_⟩
  obtain ⟨g, h1, h2⟩ := ct k t ht
  exact ⟨g, h1, below_at hb h2 (lt_of_cell h2)⟩

set_option maxRecDepth 100000 in
set_option maxHeartbeats 4000000 in
theorem same_any (a1 a2 : Option Addr) (cap1 cap2 b1 b2 : Nat) (rs : List Rec) (w : World) (hl : rs.length ≤ 1000) (ht : ∀ r ∈ rs, r.told.length ≤ 16) (h1 : RecsAt w (.slice a1 rs.length cap1) rs b1 cap1) (h2 : RecsAt w (.slice a2 rs.length cap2) rs b2 cap2) :
    Calls Try.prog 17 #[.slice a1 rs.length cap1, .slice a2 rs.length cap2] w fun e w' => e = .returned (.bool true) ∧ Below w.heap.size w w' := by
  have H1 := hide h1
  have H2 := hide h2
  have Ht := hide ht
  clear h1 h2 ht
  go_enter Try.func17, Try.ntmps17
  go_wp2_with fail
  go_loopg [5] 1004 (fun g s5 wr => ∃ (i : Nat), s5 = .int .i64 i ∧ rs.length - i + 2 ≤ g ∧ i ≤ rs.length ∧ Hid (Below w.heap.size w wr))
  case atStart => exact ⟨0, rfl, by omega, by omega, Below.refl _ _⟩
  case round =>
    rename World => wo
    obtain ⟨i, rfl, hg, hi, hI⟩ := hrel
    by_cases hlt : i < rs.length
    · have f1 : decide ((i : Int) < (rs.length : Int)) = true := by simp; omega
      have hii : (i : Int) < (rs.length : Int) := by omega
      have hw : IntKind.i64.wrap ((i : Int) + 1) = (i : Int) + 1 := by rw [IntKind.wrap_i64]; omega
      have hne : rs ≠ [] := by intro hc; rw [hc] at hlt; simp at hlt
      have e1 := H1.out.form hne
      have e2 := H2.out.form hne
      simp only [Value.slice.injEq] at e1 e2
      obtain ⟨rfl, _⟩ := e1
      obtain ⟨rfl, _⟩ := e2
      obtain ⟨sa, sc, c0, c1, c2, c3, c4, ct⟩ := H1.out.cells i rs[i] (List.getElem?_eq_getElem hlt)
      obtain ⟨ta, tc, d0, d1, d2, d3, d4, dt⟩ := H2.out.cells i rs[i] (List.getElem?_eq_getElem hlt)
      have htl := Ht.out rs[i] (List.getElem_mem hlt)
      replace c0 := below_at hI.out c0 (lt_of_cell c0)
      replace c1 := below_at hI.out c1 (lt_of_cell c1)
      replace c2 := below_at hI.out c2 (lt_of_cell c2)
      replace c3 := below_at hI.out c3 (lt_of_cell c3)
      replace c4 := below_at hI.out c4 (lt_of_cell c4)
      replace d0 := below_at hI.out d0 (lt_of_cell d0)
      replace d1 := below_at hI.out d1 (lt_of_cell d1)
      replace d2 := below_at hI.out d2 (lt_of_cell d2)
      replace d3 := below_at hI.out d3 (lt_of_cell d3)
      replace d4 := below_at hI.out d4 (lt_of_cell d4)
      have Hct := hide ct
      have Hdt := hide dt
      generalize rs[i] = r at *
      obtain ⟨⟨rt, rn, rk, re⟩, told⟩ := r
      simp only at c0 c1 c2 c3 c4 d0 d1 d2 d3 d4 htl Hct Hdt
      have hb1l := lt_of_cell c0
      have hb2l := lt_of_cell d0
      have hzo := hI.out.size
      clear ct dt
      go_wp2_with fail
      obtain ⟨W1, hW1⟩ : ∃ W1, W1 = (wo.alloc (.cells #[.int .i64 rn, .int .i64 rt, .int .i64 rk, .int .i64 re, .slice sa told.length sc] 36)).alloc (.cells #[.int .i64 rn, .int .i64 rt, .int .i64 rk, .int .i64 re, .slice ta told.length tc] 36) := ⟨_, rfl⟩
      have hb1 : Below wo.heap.size wo W1 := by rw [hW1]; exact ((Below.refl _ _).alloc (Nat.le_refl _) _).alloc (by simp) _
      have hz1 : W1.heap.size = wo.heap.size + 2 := by rw [hW1]; simp
      have x4 : W1.cell? ⟨wo.heap.size, 4, none⟩ = some (.slice sa told.length sc) := by rw [hW1]; simp [go_sem]
      have y4 : W1.cell? ⟨wo.heap.size + 1, 4, none⟩ = some (.slice ta told.length tc) := by rw [hW1]; simp [go_sem]
      have HB1 := hide (hI.out.trans (hb1.mono hzo))
      rw [← hW1]
      clear hW1 hb1 c0 c1 c2 c3 c4 d0 d1 d2 d3 d4
      go_loopg [8] 20 (fun g s8 wr => ∃ (k : Nat), s8 = .int .i64 k ∧ told.length - k + 2 ≤ g ∧ k ≤ told.length ∧ Hid (Below W1.heap.size W1 wr))
      case atStart => exact ⟨0, rfl, by omega, by omega, Below.refl _ _⟩
      case round =>
        obtain ⟨k, rfl, hg2, hk, hJ⟩ := hrel
        have p4 := below_at hJ.out x4 (by omega)
        have q4 := below_at hJ.out y4 (by omega)
        have hw1s := HB1.out.size
        by_cases hkl : k < told.length
        · have g1 : decide ((k : Int) < (told.length : Int)) = true := by simp; omega
          have hkk : (k : Int) < (told.length : Int) := by omega
          have hw2 : IntKind.i64.wrap ((k : Int) + 1) = (k : Int) + 1 := by rw [IntKind.wrap_i64]; omega
          obtain ⟨g, rfl, hgc⟩ := Hct.out k told[k] (List.getElem?_eq_getElem hkl)
          obtain ⟨g', rfl, hgd⟩ := Hdt.out k told[k] (List.getElem?_eq_getElem hkl)
          have gc1 := below_at HB1.out hgc (lt_of_cell hgc)
          have gc2 := below_at hJ.out gc1 (lt_of_cell gc1)
          have gd1 := below_at HB1.out hgd (lt_of_cell hgd)
          have gd2 := below_at hJ.out gd1 (lt_of_cell gd1)
          clear hgc hgd gc1 gd1 x4 y4
          generalize told[k] = tv at gc2 gd2
          go_wp2_with fail
          go_quiet (fail)
          go_wp2_with fail
          go_roundg (told.length - (k + 1) + 2)
          case measure => omega
          case rel => exact ⟨k + 1, by go_num, Nat.le_refl _, by omega, below_drewN hJ.out _⟩
        · have g1 : decide ((k : Int) < (told.length : Int)) = false := by simp; omega
          go_wp2_with fail
          go_roundg (rs.length - (i + 1) + 2)
          case measure => omega
          case rel => exact ⟨i + 1, by go_num, Nat.le_refl _, by omega, HB1.out.trans (hJ.out.mono hw1s)⟩
    · have f1 : decide ((i : Int) < (rs.length : Int)) = false := by simp; omega
      go_wp2_with fail
      go_ret
      exact ⟨rfl, hI.out⟩
end Go.Proofs.Ytndlmgocldckfaa

namespace Go.Proofs.Ytndlmgocldckfaa
open Go.RowKit
set_option linter.unusedVariables false
set_option linter.unusedSimpArgs false

/-! Kernels beside one another. -/

/-- All blocks of a kernel. -/
def WhSet (kb qb mb : Nat) (ov : Value) (R : Nat → Prop) (x : Nat) : Prop := KSet kb qb mb ov x ∨ R x

theorem ws_moved {w : World} {kb qb mb : Nat} {ov ov' : Value} {R : Nat → Prop} {T : Nat → Prop} (hm : Moved w ov ov') (hT : ∀ x, T x → x < w.heap.size) (hd : ∀ x, T x → ¬ WhSet kb qb mb ov R x) : ∀ x, T x → ¬ WhSet kb qb mb ov' R x := by
  rintro x hx (hc | hc)
  · exact kset_moved hm (hT x hx) (fun h => hd x hx (.inl h)) hc
  · exact hd x hx (.inr hc)

theorem KerP.wlt {R : Nat → Prop} {base : Nat} {w : World} {kb qb mb : Nat} {ov : Value} {ents : Int} {ks : List (List Ins)} {draws : List Int} {s : KS} (h : KerP R base w kb qb mb ov ents ks draws s) : ∀ x, WhSet kb qb mb ov R x → x < w.heap.size := by
  rintro x (hx | hx)
  · exact h.lt x hx
  · exact h.rlt x hx
theorem KerP.beside {R : Nat → Prop} {base : Nat} {w w' : World} {kb qb mb : Nat} {ov : Value} {ents : Int} {ks : List (List Ins)} {draws : List Int} {s : KS} {U : Nat → Prop} (h : KerP R base w kb qb mb ov ents ks draws s) (ho : Only U w w') (hd : ∀ x, U x → ¬ WhSet kb qb mb ov R x) : KerP R base w' kb qb mb ov ents ks draws s :=
  h.only ho (fun x hx hc => hd x hc (.inl hx)) (fun x hx hc => hd x hc (.inr hx))

/-- A kernel at a state as it may be. -/
structure KAt (L D : List Int) (w : World) (kb qb mb : Nat) (ov : Value) (R : Nat → Prop) (base : Nat) (s : KS) : Prop where
  ker : KerP R base w kb qb mb ov (entsF L) (kindsF L) (rdrawsF D) s
  base : base ≤ w.heap.size
  fit : Fit (entsF L) (kindsF L) (rdrawsF D) s

section
variable {L D : List Int} {w w' : World} {kb qb mb : Nat} {ov ov' : Value} {R : Nat → Prop} {base : Nat} {s : KS} {U : Nat → Prop}
theorem KAt.beside (h : KAt L D w kb qb mb ov R base s) (ho : Only U w w') (hd : ∀ x, U x → ¬ WhSet kb qb mb ov R x) : KAt L D w' kb qb mb ov R base s :=
  ⟨h.ker.beside ho hd, Nat.le_trans h.base ho.size, h.fit⟩
theorem KAt.below (h : KAt L D w kb qb mb ov R base s) (hb : Below w.heap.size w w') : KAt L D w' kb qb mb ov R base s :=
  ⟨h.ker.below hb, Nat.le_trans h.base hb.size, h.fit⟩

/-- A run of one kernel, in these words. -/
theorem KAt.run (h : KAt L D w kb qb mb ov R base s) (n : Nat) (hn : n ≤ 1000) (horizon : Int) (s2 : KS) (rs : List Rec) (why : Int) (hr : runF (kindsF L) (rdrawsF D) horizon n s = (s2, rs, why)) :
    Calls Try.prog 11 #[.pointer (some ⟨kb, 0, none⟩), .int .i64 n, .int .i64 horizon] w fun e w' => ∃ la cap ov2 RL, e = .returned (.tuple #[.slice la rs.length cap, .int .i64 why, .int .i64 0]) ∧ Only (KSet kb qb mb ov) w w' ∧ Moved w ov ov2 ∧ KAt L D w' kb qb mb ov2 R base s2 ∧ RunOut w w' kb qb mb ov2 (.slice la rs.length cap) RL rs ∧ (∃ b, RecsAt w' (.slice la rs.length cap) rs b cap) ∧ (rs.length ≤ n ∧ ∀ r ∈ rs, r.told.length ≤ 16) := by
  have he := entsF_le L
  have hk := nkF_le L
  have hlk := kindsF_len L
  have hA := runF_all (kindsF_ok L) (rdrawsF_ok D) horizon n s h.fit
  rw [hr] at hA
  refine (run_ok n horizon w h.ker h.fit.ok (by omega) (by omega) hn h.base (kindsF_ok L) (rdrawsF_ok D) s2 rs why hr).mono ?_
  rintro e w' ⟨lv, ov2, RL, rfl, ho, hm, hk2, hok2, hout⟩
  obtain ⟨la, cap, rfl, b, hat⟩ := hout.at
  exact ⟨la, cap, ov2, RL, rfl, ho, hm, ⟨hk2, Nat.le_trans h.base ho.size, hA.fit⟩, hout, ⟨b, hat⟩, hA.len, fun r hr => (hA.each r hr).2.2.2⟩
theorem KAt.save (h : KAt L D w kb qb mb ov R base s) :
    Calls Try.prog 15 #[.pointer (some ⟨kb, 0, none⟩)] w fun e w' => ∃ g cap, e = .returned (.slice (some ⟨g, 0, none⟩) (saveF (entsF L) (kindsF L).length s).length cap) ∧ Below w.heap.size w w' ∧ BRow w.heap.size w' (.slice (some ⟨g, 0, none⟩) (saveF (entsF L) (kindsF L).length s).length cap) (saveF (entsF L) (kindsF L).length s) := by
  have he := entsF_le L
  have hk := nkF_le L
  have hlk := kindsF_len L
  refine (save_any kb qb mb ov (entsF L) (kindsF L) (rdrawsF D) s w h.ker h.fit.ok (by omega) (by omega) (rdrawsF_len D).1 h.fit.q.sorted).mono ?_
  rintro e w' ⟨v, rfl, hb, hr⟩
  obtain ⟨g, cap, rfl⟩ := hr.form
  exact ⟨g, cap, rfl, hb, hr⟩
theorem KAt.bytes (h : KAt L D w kb qb mb ov R base s) : ∀ b ∈ saveF (entsF L) (kindsF L).length s, 0 ≤ b ∧ b < 256 := by
  have he := entsF_le L
  have hk := nkF_le L
  have hlk := kindsF_len L
  exact saveF_bytes h.fit.ok (by omega) (by omega) (rdrawsF_len D).1 h.fit.q.sorted
theorem KAt.planNo (h : KAt L D w kb qb mb ov R base s) (t k e : Int) (hno : argF (entsF L) (kindsF L).length s t k e = false) :
    Calls Try.prog 22 #[.pointer (some ⟨kb, 0, none⟩), .int .i64 t, .int .i64 k, .int .i64 e] w fun e w' => (∃ v, e = .returned (.tuple #[.int .i64 0, v])) ∧ Below w.heap.size w w' := by
  have he := entsF_le L
  have hk := nkF_le L
  have hlk := kindsF_len L
  exact (tPlan_arg kb qb mb ov (entsF L) (kindsF L) (rdrawsF D) s t k e w h.ker (by omega) (by omega) (by omega) hno).mono (by rintro e w' ⟨rfl, hb⟩; exact ⟨⟨_, rfl⟩, hb⟩)
end

/-- Three kernels, each for itself. -/
structure QtI (L D : List Int) (lo : Nat) (wr : World) (akb aqb amb : Nat) (aov : Value) (aR : Nat → Prop) (abase : Nat) (bkb bqb bmb : Nat) (bov : Value) (bR : Nat → Prop) (bbase : Nat) (okb oqb omb : Nat) (oov : Value) (oR : Nat → Prop) (obase : Nat) (sa sb so : KS) : Prop where
  a : KAt L D wr akb aqb amb aov aR abase sa
  b : KAt L D wr bkb bqb bmb bov bR bbase sb
  o : KAt L D wr okb oqb omb oov oR obase so
  ab : ∀ x, WhSet akb aqb amb aov aR x → ¬ WhSet bkb bqb bmb bov bR x
  ao : ∀ x, WhSet akb aqb amb aov aR x → ¬ WhSet okb oqb omb oov oR x
  bo : ∀ x, WhSet bkb bqb bmb bov bR x → ¬ WhSet okb oqb omb oov oR x
  la : ∀ x, KSet akb aqb amb aov x → lo ≤ x
  lb : ∀ x, KSet bkb bqb bmb bov x → lo ≤ x
  lz : ∀ x, KSet okb oqb omb oov x → lo ≤ x
  sz : lo ≤ wr.heap.size

theorem lo_moved {w : World} {kb qb mb lo : Nat} {ov ov' : Value} (hm : Moved w ov ov') (h : ∀ x, KSet kb qb mb ov x → lo ≤ x) (hz : lo ≤ w.heap.size) : ∀ x, KSet kb qb mb ov' x → lo ≤ x := by
  rintro x (hc | hc | hc | hc)
  · exact h x (.inl hc)
  · exact h x (.inr (.inl hc))
  · exact h x (.inr (.inr (.inl hc)))
  · rcases hm with e | ⟨g, e, hg⟩
    · exact h x (.inr (.inr (.inr (hc.trans e))))
    · rw [e] at hc; simp at hc; omega

section
variable {L D : List Int} {lo : Nat} {wr w' : World} {akb aqb amb : Nat} {aov aov' : Value} {aR : Nat → Prop} {abase : Nat} {bkb bqb bmb : Nat} {bov bov' : Value} {bR : Nat → Prop} {bbase : Nat} {okb oqb omb : Nat} {oov oov' : Value} {oR : Nat → Prop} {obase : Nat} {sa sb so s' : KS} {U : Nat → Prop}
theorem QtI.moveA (h : QtI L D lo wr akb aqb amb aov aR abase bkb bqb bmb bov bR bbase okb oqb omb oov oR obase sa sb so) (ho : Only (KSet akb aqb amb aov) wr w') (hm : Moved wr aov aov') (hk : KAt L D w' akb aqb amb aov' aR abase s') : QtI L D lo w' akb aqb amb aov' aR abase bkb bqb bmb bov bR bbase okb oqb omb oov oR obase s' sb so := by
  have h1 := ws_moved hm h.b.ker.wlt (fun x hx hc => h.ab x hc hx)
  have h2 := ws_moved hm h.o.ker.wlt (fun x hx hc => h.ao x hc hx)
  exact ⟨hk, h.b.beside ho (fun x hx => h.ab x (.inl hx)), h.o.beside ho (fun x hx => h.ao x (.inl hx)), fun x hx hc => h1 x hc hx, fun x hx hc => h2 x hc hx, h.bo, lo_moved hm h.la h.sz, h.lb, h.lz, Nat.le_trans h.sz ho.size⟩
theorem QtI.moveB (h : QtI L D lo wr akb aqb amb aov aR abase bkb bqb bmb bov bR bbase okb oqb omb oov oR obase sa sb so) (ho : Only (KSet bkb bqb bmb bov) wr w') (hm : Moved wr bov bov') (hk : KAt L D w' bkb bqb bmb bov' bR bbase s') : QtI L D lo w' akb aqb amb aov aR abase bkb bqb bmb bov' bR bbase okb oqb omb oov oR obase sa s' so := by
  have h1 := ws_moved hm h.a.ker.wlt h.ab
  have h2 := ws_moved hm h.o.ker.wlt (fun x hx hc => h.bo x hc hx)
  exact ⟨h.a.beside ho (fun x hx hc => h.ab x hc (.inl hx)), hk, h.o.beside ho (fun x hx => h.bo x (.inl hx)), h1, h.ao, fun x hx hc => h2 x hc hx, h.la, lo_moved hm h.lb h.sz, h.lz, Nat.le_trans h.sz ho.size⟩
theorem QtI.moveO (h : QtI L D lo wr akb aqb amb aov aR abase bkb bqb bmb bov bR bbase okb oqb omb oov oR obase sa sb so) (ho : Only (KSet okb oqb omb oov) wr w') (hm : Moved wr oov oov') (hk : KAt L D w' okb oqb omb oov' oR obase s') : QtI L D lo w' akb aqb amb aov aR abase bkb bqb bmb bov bR bbase okb oqb omb oov' oR obase sa sb s' := by
  have h1 := ws_moved hm h.a.ker.wlt h.ao
  have h2 := ws_moved hm h.b.ker.wlt h.bo
  exact ⟨h.a.beside ho (fun x hx hc => h.ao x hc (.inl hx)), h.b.beside ho (fun x hx hc => h.bo x hc (.inl hx)), hk, h.ab, h1, h2, h.la, h.lb, lo_moved hm h.lz h.sz, Nat.le_trans h.sz ho.size⟩
theorem QtI.other (h : QtI L D lo wr akb aqb amb aov aR abase bkb bqb bmb bov bR bbase okb oqb omb oov oR obase sa sb so) (ho : Only U wr w') (h1 : ∀ x, U x → ¬ WhSet akb aqb amb aov aR x ∧ ¬ WhSet bkb bqb bmb bov bR x ∧ ¬ WhSet okb oqb omb oov oR x) : QtI L D lo w' akb aqb amb aov aR abase bkb bqb bmb bov bR bbase okb oqb omb oov oR obase sa sb so :=
  ⟨h.a.beside ho (fun x hx => (h1 x hx).1), h.b.beside ho (fun x hx => (h1 x hx).2.1), h.o.beside ho (fun x hx => (h1 x hx).2.2), h.ab, h.ao, h.bo, h.la, h.lb, h.lz, Nat.le_trans h.sz ho.size⟩
theorem QtI.fresh (h : QtI L D lo wr akb aqb amb aov aR abase bkb bqb bmb bov bR bbase okb oqb omb oov oR obase sa sb so) (hb : Below wr.heap.size wr w') : QtI L D lo w' akb aqb amb aov aR abase bkb bqb bmb bov bR bbase okb oqb omb oov oR obase sa sb so :=
  h.other (Only.new (S := fun _ => False) hb) (by simp)
end

/-- A row of cells that may be written. -/
def Wr5 (w : World) (g n : Nat) : Prop := ∃ cur T, w.heap[g]? = some (.cells cur T (0, 0)) ∧ n ≤ cur.size
theorem Wr5.cell {w : World} {g n o : Nat} (h : Wr5 w g n) (ho : o < n) : (∃ v, w.cell? ⟨g, o, none⟩ = some v) ∧ w.frozen? ⟨g, o, none⟩ = false := by
  obtain ⟨cur, T, h1, h2⟩ := h
  refine ⟨⟨cur[o], ?_⟩, ?_⟩
  · simp [World.cell?, h1, show o < cur.size by omega]
  · simp [World.frozen?, h1]
theorem Wr5.set {w : World} {g n o : Nat} (h : Wr5 w g n) (v : Value) : Wr5 (w.setCell ⟨g, o, none⟩ v) g n := by
  obtain ⟨cur, T, h1, h2⟩ := h
  exact ⟨_, T, heap_setCell_at h1 v, by simpa using h2⟩
theorem Wr5.below {w w' : World} {g n : Nat} (h : Wr5 w g n) (hb : Below w.heap.size w w') : Wr5 w' g n := by
  obtain ⟨cur, T, h1, h2⟩ := h
  exact ⟨cur, T, (hb.block g (Array.getElem?_eq_some_iff.1 h1).1).trans h1, h2⟩
theorem BRow.may {base : Nat} {w : World} {g n cap : Nat} {l : List Int} (h : BRow base w (.slice (some ⟨g, 0, none⟩) n cap) l) {i : Nat} (hi : i < l.length) : (∃ u, w.cell? ⟨g, i, none⟩ = some u) ∧ w.frozen? ⟨g, i, none⟩ = false := by
  obtain ⟨g', cap', cur, fz, he, _, hg, hcl, h1, h2, h3, h4⟩ := h
  simp only [Value.slice.injEq, Option.some.injEq, Addr.mk.injEq] at he
  obtain ⟨⟨rfl, _⟩, _, rfl⟩ := he
  refine ⟨⟨cur[i], by simp [World.cell?, hg, show i < cur.size by omega]⟩, ?_⟩
  obtain ⟨lo, hi'⟩ := fz
  have := hcl i (by omega)
  simp only [World.frozen?, hg]
  simp only [Bool.and_eq_false_iff, decide_eq_false_iff_not]
  simp only at this
  omega
theorem RunOut.keep {w w' w'' : World} {kb qb mb : Nat} {ov lv : Value} {L : List RecC} {rs : List Rec} {U : Nat → Prop} (h : RunOut w w' kb qb mb ov lv L rs) (ho : Only U w' w'') (hU : ∀ x, U x → x < w.heap.size) : RunOut w w'' kb qb mb ov lv L rs := by
  refine ⟨h.len, owns_only h.row ho (fun b hb hc => ?_), fun j x r hx hr => ?_, h.lsep, h.tsep, h.apart⟩
  · have := (h.row.lt b hb.symm).1; have := hU b hc; omega
  · obtain ⟨h1, h2, h3⟩ := h.rec_ j x r hx hr
    exact ⟨h1, h2, owns_only h3 ho (fun b hb hc => by have := (h3.lt b hb.symm).1; have := hU b hc; omega)⟩
theorem RunOut.wr {w w' : World} {kb qb mb : Nat} {ov lv : Value} {L : List RecC} {rs : List Rec} (h : RunOut w w' kb qb mb ov lv L rs) : rs = [] ∨ ∃ g cap, lv = .slice (some ⟨g, 0, none⟩) rs.length cap ∧ Wr5 w' g (rs.length * 5) ∧ w.heap.size ≤ g := by
  obtain ⟨_, h1 | ⟨g, cap, cur, hv, hg, hc, h3, h4, h5, h6⟩⟩ := h.row
  · exact .inl (List.eq_nil_of_length_eq_zero (by have := h.len; omega))
  · refine .inr ⟨g, cap, by rw [hv, h.len], ⟨cur, _, hc, ?_⟩, hg⟩
    rw [h5]
    have := h.len
    exact Nat.mul_le_mul_right 5 (by omega)
end Go.Proofs.Ytndlmgocldckfaa

namespace Go.Proofs.Ytndlmgocldckfaa
open Go.RowKit
set_option linter.unusedVariables false
set_option linter.unusedSimpArgs false

set_option maxRecDepth 100000 in
set_option maxHeartbeats 4000000 in
theorem quiet_any (sa da pa ia : Option Addr) (sc dc pc ic : Nat) (L D I : List Int) (P : List PlanR) (horizon noise : Int) (w : World) (hL : RawL w sa L) (hD : RawL w da D) (hP : RawPl w pa P) (hIn : RawL w ia I) (hns : I64 noise) :
    Calls Try.prog 8 #[.agg #[.slice sa L.length sc, .slice da D.length dc, .slice pa P.length pc], .slice ia I.length ic, .int .i64 horizon, .int .i64 noise] w fun e w' => e = .returned (.bool true) ∧ Below w.heap.size w w' := by
  have HL := hide hL
  have HD := hide hD
  have HP := hide hP
  have HI := hide hIn
  clear hL hD hP hIn
  go_enter Try.func8, Try.ntmps8
  go_wp2_with fail
  obtain ⟨W0, hW0⟩ : ∃ W0, W0 = w.alloc (.cells #[.slice sa L.length sc, .slice da D.length dc, .slice pa P.length pc] 25) := ⟨_, rfl⟩
  have hb0 : Below w.heap.size w W0 := by rw [hW0]; exact (Below.refl _ _).alloc (Nat.le_refl _) _
  have hz0 : W0.heap.size = w.heap.size + 1 := by rw [hW0]; simp
  have x0 : W0.cell? ⟨w.heap.size, 0, none⟩ = some (.slice sa L.length sc) := by rw [hW0]; simp [go_sem]
  have x1 : W0.cell? ⟨w.heap.size, 1, none⟩ = some (.slice da D.length dc) := by rw [hW0]; simp [go_sem]
  have x2 : W0.cell? ⟨w.heap.size, 2, none⟩ = some (.slice pa P.length pc) := by rw [hW0]; simp [go_sem]
  rw [← hW0]
  clear hW0
  refine (begun_any sa da pa sc dc pc L D P W0 (HL.out.below hb0) (HD.out.below hb0) (HP.out.below hb0)).mono ?_
  rintro e w1 ⟨akb, aqb, amb, aov, aR, abase, rfl, hA⟩
  have hz1 := hA.below.size
  have ha1 := hA.base
  have HB1 := hide (hb0.trans (hA.below.mono (by omega)))
  have y0 := below_at hA.below x0 (by omega)
  have y1 := below_at hA.below x1 (by omega)
  have y2 := below_at hA.below x2 (by omega)
  have HA := hide hA
  clear hA hb0 x0 x1 x2
  go_wp2_with fail
  refine (begun_any sa da pa sc dc pc L D P w1 (HL.out.below HB1.out) (HD.out.below HB1.out) (HP.out.below HB1.out)).mono ?_
  rintro e w2 ⟨bkb, bqb, bmb, bov, bR, bbase, rfl, hB⟩
  have hz2 := hB.below.size
  have hb1 := hB.base
  have HB2 := hide (HB1.out.trans (hB.below.mono (by omega)))
  have z0 := below_at hB.below y0 (by omega)
  have z1 := below_at hB.below y1 (by omega)
  have z2 := below_at hB.below y2 (by omega)
  have HB := hide hB
  clear hB y0 y1 y2
  go_wp2_with fail
  refine (begun_any sa da pa sc dc pc L D P w2 (HL.out.below HB2.out) (HD.out.below HB2.out) (HP.out.below HB2.out)).mono ?_
  rintro e w3 ⟨okb, oqb, omb, oov, oR, obase, rfl, hO⟩
  have hz3 := hO.below.size
  have hb2 := hO.base
  have HB3 := hide (HB2.out.trans (hO.below.mono (by omega)))
  have hf := begunF_facts L D P
  have HQ : Hid (QtI L D W0.heap.size w3 akb aqb amb aov aR abase bkb bqb bmb bov bR bbase okb oqb omb oov oR obase (begunF L P) (begunF L P) (begunF L P)) := by
    have hal := HA.out.ker.wlt
    have hbl := HB.out.ker.wlt
    have hbg : ∀ x, WhSet bkb bqb bmb bov bR x → w1.heap.size ≤ x := by
      rintro x (hx | hx)
      · have := HB.out.kset x hx; omega
      · have := HB.out.rset x hx; omega
    have hog : ∀ x, WhSet okb oqb omb oov oR x → w2.heap.size ≤ x := by
      rintro x (hx | hx)
      · have := hO.kset x hx; omega
      · have := hO.rset x hx; omega
    refine ⟨⟨(HA.out.ker.below HB.out.below).below hO.below, by omega, hf.1⟩, ⟨HB.out.ker.below hO.below, by omega, hf.1⟩, ⟨hO.ker, hb2.2, hf.1⟩, ?_, ?_, ?_, ?_, ?_, ?_, by omega⟩
    · intro x hx hc; have := hal x hx; have := hbg x hc; omega
    · intro x hx hc; have := hal x hx; have := hog x hc; omega
    · intro x hx hc; have := hbl x hx; have := hog x hc; omega
    · intro x hx; have := HA.out.kset x hx; omega
    · intro x hx; have := HB.out.kset x hx; omega
    · intro x hx; have := hO.kset x hx; omega
  have hlo : W0.heap.size = w.heap.size + 1 := hz0
  clear hO HA HB z0 z1 z2 hf
  generalize W0.heap.size = lo at *
  generalize begunF L P = s0 at HQ
  go_wp2_with fail
  go_loopg [12] 23 (fun gf s12 wx => ∃ (i : Nat) (aov bov oov : Value) (s so : KS), s12 = .int .i64 i ∧ 21 - i + 1 ≤ gf ∧ i ≤ 20 ∧ i ≤ I.length ∧ Hid (QtI L D lo wx akb aqb amb aov aR abase bkb bqb bmb bov bR bbase okb oqb omb oov oR obase s s so ∧ Below w.heap.size w wx))
  case atStart => exact ⟨0, aov, bov, oov, s0, s0, rfl, by omega, by omega, by omega, HQ.out, HB3.out⟩
  case round =>
    rename World => wo
    clear HQ
    clear aov bov oov
    obtain ⟨i, aov, bov, oov, s, so, rfl, hgf, hi1, hi2, hI⟩ := hrel
    have hzo := hI.out.2.size
    by_cases hi : i < I.length
    · by_cases hi3 : i < 20
      · have d1 : decide ((i : Int) < (I.length : Int)) = true := by simp; omega
        have d2 : decide ((i : Int) < 20) = true := by simp; omega
        have hii : (i : Int) < (I.length : Int) := by omega
        have hwi : IntKind.i64.wrap ((i : Int) + 1) = (i : Int) + 1 := by rw [IntKind.wrap_i64]; omega
        obtain ⟨ib, ioff, hia, ic0⟩ := (HI.out.below hI.out.2).2.2 i hi
        obtain rfl := hia
        have hix := HI.out.2.1 I[i] (List.getElem_mem hi)
        obtain ⟨n, hn⟩ := Int.eq_ofNat_of_zero_le (pickF_lt I[i] (n := 20) (by omega)).1
        have hn19 : n ≤ 19 := by have := (pickF_lt I[i] (n := 20) (by omega)).2; omega
        generalize I[i] = ix at hix ic0 hn
        rcases hrun : runF (kindsF L) (rdrawsF D) horizon n s with ⟨s2, rs, why⟩
        have HX := hide (hI.out.1.a.run n (by omega) horizon s2 rs why hrun)
        go_wp2_with (go_at_call 10; refine (pick_any _ _ _ hix (by omega)).mono ?_; rintro e w0 ⟨rfl, rfl⟩; rw [hn])
        refine HX.out.mono ?_
        rintro e w4 ⟨la, lcap, aov2, RLa, rfl, ho4, hm4, hk4, hout4, hat4, hrl⟩
        have HQ4 := hide (hI.out.1.moveA ho4 hm4 hk4)
        have HB4 : Hid (Below w.heap.size w w4) := hI.out.2.trans (ho4.below (by omega) (fun x hx hc => by have := hI.out.1.la x hc; omega))
        have hz4 := ho4.size
        obtain ⟨lb4, hat4⟩ := hat4
        have Hat4 := hide hat4
        have Hlb : Hid (∀ x, WhSet bkb bqb bmb bov bR x → x < w4.heap.size) := HQ4.out.b.ker.wlt
        have HY := hide (HQ4.out.b.run n (by omega) horizon s2 rs why hrun)
        have Hbwo : Hid (∀ x, KSet bkb bqb bmb bov x → x < w0.heap.size) := fun x hx => hI.out.1.b.ker.lt x hx
        have Hout4 := hide hout4
        clear ho4 hm4 hk4 hat4 HX ic0 hout4
        go_wp2_with fail
        refine HY.out.mono ?_
        rintro e w5 ⟨ma, mcap, bov2, RLb, rfl, ho5, hm5, hk5, hout5, hat5, _⟩
        have HQ5 := hide (HQ4.out.moveB ho5 hm5 hk5)
        have hz5 := ho5.size
        have HB5 : Hid (Below w.heap.size w w5) := HB4.out.trans (ho5.below (by have := HB4.out.size; omega) (fun x hx hc => by have := HQ4.out.lb x hc; omega))
        obtain ⟨mb5, hat5⟩ := hat5
        obtain ⟨la5, lcap5, hl5, lb5, hla5⟩ := (Hout4.out.keep ho5 Hbwo.out).at
        simp only [Value.slice.injEq] at hl5
        obtain ⟨hq1, _, hq3⟩ := hl5
        subst hq1
        subst hq3
        have HSm := hide (same_any la ma lcap mcap lb5 mb5 rs w5 (by omega) hrl.2 hla5 hat5)
        obtain ⟨mg, hmg⟩ : ∃ mg, rs ≠ [] → ma = some ⟨mg, 0, none⟩ ∧ Wr5 w5 mg (rs.length * 5) ∧ (¬ WhSet akb aqb amb aov2 aR mg ∧ ¬ WhSet bkb bqb bmb bov2 bR mg ∧ ¬ WhSet okb oqb omb oov oR mg) := by
          rcases hout5.wr with h | ⟨g, cap, h1, h2, h3⟩
          · exact ⟨0, fun hc => absurd h hc⟩
          · simp only [Value.slice.injEq] at h1
            refine ⟨g, fun _ => ⟨h1.1, h2, fun hc => ?_, fun hc => ?_, fun hc => ?_⟩⟩
            · have := HQ4.out.a.ker.wlt g hc; omega
            · rcases hc with hc | hc
              · exact hout5.lsep g (by rw [h1.1]; rfl) hc
              · have := HQ4.out.b.ker.rlt g hc; omega
            · have := HQ4.out.o.ker.wlt g hc; omega
        have Hmg := hide hmg
        have HMz : Hid (rs ≠ [] → mg < w.heap.size → False) := by
          intro h hlt
          rcases hout5.wr with h' | ⟨g, cap, h1, h2, h3⟩
          · exact h h'
          · simp only [Value.slice.injEq] at h1
            have e1 : mg = g := by
              have h4 := (hmg h).1.symm.trans h1.1
              simp only [Option.some.injEq, Addr.mk.injEq] at h4
              exact h4.1
            have e2 := HB4.out.size
            omega
        have hrlen : rs.length ≤ 19 := by omega
        clear ho5 hm5 hk5 hat5 hla5 HY hout5 Hout4 hmg
        go_wp2_with fail
        refine HSm.out.mono ?_
        rintro e w6 ⟨rfl, hb6⟩
        have hz6 := hb6.size
        have HQ6 := hide (HQ5.out.fresh hb6)
        have hzw5 := HB5.out.size
        have HB6 : Hid (Below w.heap.size w w6) := HB5.out.trans (hb6.mono hzw5)
        have Hmg6 : Hid (rs ≠ [] → ma = some ⟨mg, 0, none⟩ ∧ Wr5 w6 mg (rs.length * 5) ∧ (¬ WhSet akb aqb amb aov2 aR mg ∧ ¬ WhSet bkb bqb bmb bov2 bR mg ∧ ¬ WhSet okb oqb omb oov oR mg)) := fun h => ⟨(Hmg.out h).1, (Hmg.out h).2.1.below hb6, (Hmg.out h).2.2⟩
        have hmgz : rs ≠ [] → w.heap.size ≤ mg := fun h => by
          have hw5 := (Hmg.out h).2.1
          rcases Nat.lt_or_ge mg w.heap.size with hlt | hge
          · exfalso
            exact HMz.out h hlt
          · exact hge
        have Hmgz := hide hmgz
        clear hb6 HSm hmgz
        go_wp2_with fail
        go_loopg [21] 23 (fun gf s21 wx => ∃ (j : Nat), s21 = .int .i64 j ∧ rs.length - j + 2 ≤ gf ∧ j ≤ rs.length ∧ Hid (QtI L D lo wx akb aqb amb aov2 aR abase bkb bqb bmb bov2 bR bbase okb oqb omb oov oR obase s2 s2 so ∧ Below w.heap.size w wx ∧ (rs ≠ [] → Wr5 wx mg (rs.length * 5))))
        case atStart => exact ⟨0, rfl, by omega, by omega, HQ6.out, HB6.out, fun h => (Hmg6.out h).2.1⟩
        case round =>
          obtain ⟨j, rfl, hgf2, hj, hJ⟩ := hrel
          by_cases hjl : j < rs.length
          · have f1 : decide ((j : Int) < (rs.length : Int)) = true := by simp; omega
            have hjj : (j : Int) < (rs.length : Int) := by omega
            have hwj : IntKind.i64.wrap ((j : Int) + 1) = (j : Int) + 1 := by rw [IntKind.wrap_i64]; omega
            have hne : rs ≠ [] := by intro hc; rw [hc] at hjl; simp at hjl
            obtain rfl := (Hmg6.out hne).1
            obtain ⟨⟨u, hu⟩, hfz⟩ := (hJ.out.2.2 hne).cell (o := j * 5 + 1) (by omega)
            go_wp2_with fail
            go_roundg (rs.length - (j + 1) + 2)
            case measure => omega
            case rel =>
              have hoS : Only (· = mg) wr (wr.setCell ⟨mg, j * 5 + 1, none⟩ (.int .i64 (-1))) := (Only.refl (· = mg) wr).setCell (p := ⟨mg, j * 5 + 1, none⟩) (show mg = mg from rfl) _
              refine ⟨j + 1, by go_num, Nat.le_refl _, by omega, hJ.out.1.other hoS (fun x hx => by subst hx; exact (Hmg6.out hne).2.2), ?_, fun h => (hJ.out.2.2 h).set _⟩
              exact hJ.out.2.1.trans (hoS.below hJ.out.2.1.size (fun k hk hc => by have := Hmgz.out hne; omega))
          · have f1 : decide ((j : Int) < (rs.length : Int)) = false := by simp; omega
            have HQ7 := hide hJ.out.1
            have HB7 := hide hJ.out.2.1
            have htk := HQ7.out.b.fit.ok.taken
            go_wp2_with fail
            refine (tNow_any bkb bqb bmb bov2 (entsF L) (kindsF L) (rdrawsF D) s2 wr HQ7.out.b.ker htk).mono ?_
            rintro e w8 ⟨rfl, hb8⟩
            have HQ8 := hide (HQ7.out.fresh hb8)
            have hz8 := hb8.size
            have hzw := HB7.out.size
            have HB8 := hide (HB7.out.trans (hb8.mono hzw))
            have he := entsF_le L
            have HRg := hide (tReg_any bkb bqb bmb bov2 (entsF L) (kindsF L) (rdrawsF D) s2 0 0 w8 HQ8.out.b.ker (by omega) (by omega))
            clear hb8 he htk
            go_wp2_with fail
            refine HRg.out.mono ?_
            rintro e w9 ⟨rfl, hb9⟩
            have HQ9 := hide (HQ8.out.fresh hb9)
            have hz9 := hb9.size
            have HB9 := hide (HB8.out.trans (hb9.mono (by omega)))
            have HSv := hide HQ9.out.b.save
            clear hb9 HRg
            go_wp2_with fail
            refine HSv.out.mono ?_
            rintro e w10 ⟨cg, ccap, rfl, hb10, hrow10⟩
            have hz10 := hb10.size
            have HQ10 := hide (HQ9.out.fresh hb10)
            have HB10 := hide (HB9.out.trans (hb10.mono (by omega)))
            have hln8 : 8 ≤ (saveF (entsF L) (kindsF L).length s2).length := by simp only [saveF, headF, List.length_append, sumB_len, List.length_cons]; omega
            obtain ⟨⟨u5, hu5⟩, hz55⟩ := hrow10.may (i := 5) (by omega)
            have hcg : w9.heap.size ≤ cg := (hrow10.lt cg rfl).1
            generalize (saveF (entsF L) (kindsF L).length s2).length = ln at hln8 hrow10 ⊢
            have dl : decide (5 < (ln : Int)) = true := by rw [decide_eq_true_eq]; omega
            have hl5 : (5 : Int) < (ln : Int) := by omega
            have hoS : ∀ v, Only (· = cg) w10 (w10.setCell ⟨cg, 5, none⟩ v) := fun v => (Only.refl (· = cg) w10).setCell (p := ⟨cg, 5, none⟩) (show cg = cg from rfl) _
            have HQ11 : Hid (∀ v, QtI L D lo (w10.setCell ⟨cg, 5, none⟩ v) akb aqb amb aov2 aR abase bkb bqb bmb bov2 bR bbase okb oqb omb oov oR obase s2 s2 so ∧ Below w.heap.size w (w10.setCell ⟨cg, 5, none⟩ v)) := fun v => by
              refine ⟨HQ10.out.other (hoS v) (fun x hx => ?_), HB10.out.trans ((hoS v).below (by omega) (fun k hk hc => by omega))⟩
              subst hx
              refine ⟨fun hc => ?_, fun hc => ?_, fun hc => ?_⟩
              · have := HQ9.out.a.ker.wlt _ hc; omega
              · have := HQ9.out.b.ker.wlt _ hc; omega
              · have := HQ9.out.o.ker.wlt _ hc; omega
            have hck := HQ9.out.b.fit.ok.clock
            have n1 : argF (entsF L) (kindsF L).length s2 (-1) 0 0 = false := by simp [argF, inB]; omega
            have n2 : argF (entsF L) (kindsF L).length s2 2000000000000 0 0 = false := by simp [argF, inB]
            have n3 : argF (entsF L) (kindsF L).length s2 1000000000000 (-1) noise = false := by simp [argF, inB]
            have N1 := hide n1
            have N2 := hide n2
            have N3 := hide n3
            clear hb10 hrow10 HSv hoS hck n1 n2 n3
            go_wp2_with fail
            have HQ12 := hide (HQ11.out (.int .u8 0))
            generalize w10.setCell ⟨cg, 5, none⟩ (.int .u8 0) = W11 at HQ12 ⊢
            clear hu5 hz55 HQ11
            have hzW := HQ12.out.2.size
            refine (HQ12.out.1.b.planNo (-1) 0 0 N1.out).mono ?_
            rintro e w13 ⟨⟨v13, rfl⟩, hb13⟩
            have HQ13 := hide (HQ12.out.1.fresh hb13)
            have hz13 := hb13.size
            have HB13 := hide (HQ12.out.2.trans (hb13.mono (by omega)))
            clear hb13
            go_wp2_with fail
            refine (HQ13.out.b.planNo 2000000000000 0 0 N2.out).mono ?_
            rintro e w14 ⟨⟨v14, rfl⟩, hb14⟩
            have HQ14 := hide (HQ13.out.fresh hb14)
            have hz14 := hb14.size
            have HB14 := hide (HB13.out.trans (hb14.mono (by omega)))
            clear hb14
            go_wp2_with fail
            refine (HQ14.out.b.planNo 1000000000000 (-1) noise N3.out).mono ?_
            rintro e w15 ⟨⟨v15, rfl⟩, hb15⟩
            have HQ15 := hide (HQ14.out.fresh hb15)
            have hz15 := hb15.size
            have HB15 := hide (HB14.out.trans (hb15.mono (by omega)))
            clear hb15
            go_wp2_with fail
            refine (run_arg bkb (-1) noise w15 (by omega)).mono ?_
            rintro e w16 ⟨rfl, rfl⟩
            go_wp2_with fail
            refine (run_arg bkb 1001 noise w16 (by omega)).mono ?_
            rintro e w17 ⟨rfl, rfl⟩
            go_wp2_with fail
            refine (HQ15.out.b.run 0 (by omega) noise s2 [] 0 rfl).mono ?_
            rintro e w18 ⟨la8, lcap8, bov8, RL8, rfl, ho8, hm8, hk8, _, _, _⟩
            have HQ18 := hide (HQ15.out.moveB ho8 hm8 hk8)
            have hz18 := ho8.size
            have HB18 : Hid (Below w.heap.size w w18) := HB15.out.trans (ho8.below (by omega) (fun x hx hc => by have := HQ15.out.lb x hc; omega))
            obtain ⟨m9, hm9⟩ := Int.eq_ofNat_of_zero_le (pickF_lt noise (n := 9) (by omega)).1
            have hm98 : m9 ≤ 8 := by have := (pickF_lt noise (n := 9) (by omega)).2; omega
            rcases hruno : runF (kindsF L) (rdrawsF D) 1000 m9 so with ⟨so2, rso, whyo⟩
            have HOr := hide (HQ18.out.o.run m9 (by omega) 1000 so2 rso whyo hruno)
            clear ho8 hm8 hk8
            go_wp2_with (go_at_call 10; refine (pick_any _ _ _ hns (by omega)).mono ?_; rintro e w19 ⟨rfl, rfl⟩; rw [hm9])
            refine HOr.out.mono ?_
            rintro e w20 ⟨la9, lcap9, oov9, RL9, rfl, ho9, hm9', hk9, _, _, _⟩
            have HQ20 := hide (HQ18.out.moveO ho9 hm9' hk9)
            have HB20 : Hid (Below w.heap.size w w20) := HB18.out.trans (ho9.below (by have := HB18.out.size; omega) (fun x hx hc => by have := HQ18.out.lz x hc; omega))
            clear ho9 hm9' hk9 HOr
            go_wp2_with fail
            go_roundg (21 - (i + 1) + 1)
            case measure => omega
            case rel => exact ⟨i + 1, aov2, bov8, oov9, s2, so2, by go_num, Nat.le_refl _, by omega, by omega, HQ20.out, HB20.out⟩
      · have d1 : decide ((i : Int) < (I.length : Int)) = true := by simp; omega
        have d2 : decide ((i : Int) < 20) = false := by simp; omega
        have HSa := hide hI.out.1.a.save
        go_wp2_with fail
        refine HSa.out.mono ?_
        rintro e w8 ⟨pg, pcap, rfl, hb8, hrow8⟩
        have hz8 := hb8.size
        have HQ8 := hide (hI.out.1.fresh hb8)
        have HB8 := hide (hI.out.2.trans (hb8.mono (by omega)))
        have HSb := hide HQ8.out.b.save
        have Hrow8 := hide hrow8
        clear hb8 hrow8 HSa
        go_wp2_with fail
        refine HSb.out.mono ?_
        rintro e w9 ⟨qg, qcap, rfl, hb9, hrow9⟩
        have HB9 := hide (HB8.out.trans (hb9.mono (by omega)))
        have hcv1 := conv_str (Hrow8.out.keep (Only.new (S := fun _ => False) hb9) (by simp)) HQ8.out.a.bytes
        have hcv2 := conv_str hrow9 HQ8.out.b.bytes
        clear hb9 hrow9 HSb Hrow8
        go_wp2_with fail
        go_ret
        exact ⟨rfl, HB9.out⟩
    · have d1 : decide ((i : Int) < (I.length : Int)) = false := by simp; omega
      have HSa := hide hI.out.1.a.save
      go_wp2_with fail
      refine HSa.out.mono ?_
      rintro e w8 ⟨pg, pcap, rfl, hb8, hrow8⟩
      have hz8 := hb8.size
      have HQ8 := hide (hI.out.1.fresh hb8)
      have HB8 := hide (hI.out.2.trans (hb8.mono (by omega)))
      have HSb := hide HQ8.out.b.save
      have Hrow8 := hide hrow8
      clear hb8 hrow8 HSa
      go_wp2_with fail
      refine HSb.out.mono ?_
      rintro e w9 ⟨qg, qcap, rfl, hb9, hrow9⟩
      have HB9 := hide (HB8.out.trans (hb9.mono (by omega)))
      have hcv1 := conv_str (Hrow8.out.keep (Only.new (S := fun _ => False) hb9) (by simp)) HQ8.out.a.bytes
      have hcv2 := conv_str hrow9 HQ8.out.b.bytes
      clear hb9 hrow9 HSb Hrow8
      go_wp2_with fail
      go_ret
      exact ⟨rfl, HB9.out⟩
end Go.Proofs.Ytndlmgocldckfaa

namespace Go.Proofs.Ytndlmgocldckfaa
open Go.ChangeShapes Go.WideShapes Go.ChangeAt Go.RowKit
set_option linter.unusedVariables false
set_option linter.unusedSimpArgs false

set_option maxRecDepth 100000 in
set_option maxHeartbeats 1000000 in
theorem liftedQ (os : Os) (started : os.Started) (H : Type) (enc : TypeId × Value → H) :
    ReturnsInHanded {} Try.checked os 8 .any (Rows.quietSpec.pre6 enc Try.prog Try.f8 Rows.quietRow.domain false) (Rows.quietSpec.post enc Try.prog Try.f8 false true false false) := by
  refine returnsInHanded_of_change_sized (C := Try.checked) own started (by kernel_rfl) Try.func8
    (ChangeSpec.witness6 (enc := enc) (C := Try.checked) false ⟨#[], #[.agg #[.slice none 0 0, .slice none 0 0, .slice none 0 0], .slice none 0 0, .int .i64 0, .int .i64 0], []⟩ 8 (by kernel_rfl) (by kernel_rfl) (by kernel_rfl) (by kernel_rfl)) ?_
  intro W base args ds gs before hval0 hW hcnd hwt0 _
  have hval : ∀ (j : Nat) t v, Try.f8.params[j]? = some t → args[j]? = some v → Value.okWide Try.prog W .any base t v := hval0
  have hwt : (DataW.weightsEach Try.prog (Try.f8.params.toList ++ DataSpec.varTypes Try.prog Rows.quietSpec.plain) (ds ++ gs)).all (· ≤ reachBytes) = true := hwt0
  have hW' := hW
  obtain ⟨p, q, hA0, hV, rfl, hfz, hnd⟩ := hW
  have hA : DataW.TrodAll enc Try.prog W 0 (fun _ => true) true Try.f8.params.toList args.toList ds p := hA0
  rw [Try.params8] at hA hval hwt
  obtain ⟨v0, vs0, d0, ds0, p0, q0, hargs, rfl, rfl, h0, r0⟩ := trodAll_cons hA
  obtain ⟨v1, vs1, d1, ds1, p1, q1, rfl, rfl, rfl, h1, r1⟩ := trodAll_cons r0
  obtain ⟨v2, vs2, d2, ds2, p2, q2, rfl, rfl, rfl, h2, r2⟩ := trodAll_cons r1
  obtain ⟨v3, vs3, d3, ds3, p3, q3, rfl, rfl, rfl, h3, r3⟩ := trodAll_cons r2
  obtain ⟨rfl, rfl, rfl⟩ := trodAll_nil r3
  obtain rfl : args = #[v0, v1, v2, v3] := by cases args; simp_all
  obtain ⟨rfl, rfl⟩ := trodVars_none hV
  have k0 := h0
  have k1 := h1
  have k2 := h2
  have k3 := h3
  have lt0 : ∀ x ∈ p0, x.block < W.heap.size := by obtain ⟨m, hm⟩ := k0; exact DataW.trod_lt m _ _ _ hm
  have lt1 : ∀ x ∈ p1, x.block < W.heap.size := by obtain ⟨m, hm⟩ := k1; exact DataW.trod_lt m _ _ _ hm
  have lt2 : ∀ x ∈ p2, x.block < W.heap.size := by obtain ⟨m, hm⟩ := k2; exact DataW.trod_lt m _ _ _ hm
  have lt3 : ∀ x ∈ p3, x.block < W.heap.size := by obtain ⟨m, hm⟩ := k3; exact DataW.trod_lt m _ _ _ hm
  have wok : WOK 25 d0 := by
    intro n hn
    have := List.all_eq_true.1 hwt n (DataW.weights_mem_each (j := 0) rfl rfl n hn)
    simpa using this
  obtain ⟨sa, da, pa, sc, dc, pc, L, D, P, rfl, hL, hD, hP⟩ := case_open (okWide_struct Try.underlying25 (hval 0 25 v0 rfl rfl)) h0 wok
  have wok1 : WOK 22 d1 := by
    intro n hn
    have := List.all_eq_true.1 hwt n (DataW.weights_mem_each (j := 1) rfl rfl n hn)
    simpa using this
  obtain ⟨a1, len1, cap1, hv1⟩ := okWide_slice Try.underlying22 (hval 1 22 v1 rfl rfl)
  subst hv1
  obtain ⟨m1, hm1⟩ := h1
  obtain ⟨ia, I, ic, hi1, hI1⟩ := ints_open hm1 wok1
  obtain ⟨m2, hm2⟩ := h2
  obtain ⟨m3, hm3⟩ := h3
  obtain ⟨n2, e2, _, b2⟩ := DataW.trod_int Try.underlying3 hm2
  obtain ⟨n3, e3, _, b3⟩ := DataW.trod_int Try.underlying3 hm3
  obtain ⟨z2, hz2⟩ := okWide_int Try.underlying3 (hval 2 3 v2 rfl rfl)
  obtain ⟨z3, hz3⟩ := okWide_int Try.underlying3 (hval 3 3 v3 rfl rfl)
  subst hz2 hz3
  simp [Value.cells] at e2 e3
  subst e2 e3
  simp only [Value.slice.injEq] at hi1
  obtain ⟨rfl, rfl, rfl⟩ := hi1
  clear hA0 hval0 hwt0
  refine (quiet_any sa da pa _ sc dc pc _ L D I P _ _ W hL hD hP hI1 (bounds_i64 b3)).mono fun e W' ⟨he, bel⟩ => ?_
  subst he
  exact ⟨_, rfl, _, _, _, [], _, [], hW', trodAll_mk1 (shut_bool Try.underlying4 _), (trodAll_cons_mk (Below.trod laidOut (by kernel_rfl) (of_decide_eq_true (by kernel_rfl)) k0 bel lt0) (trodAll_cons_mk (Below.trod laidOut (by kernel_rfl) (of_decide_eq_true (by kernel_rfl)) k1 bel lt1) (trodAll_cons_mk (Below.trod laidOut (by kernel_rfl) (of_decide_eq_true (by kernel_rfl)) k2 bel lt2) (trodAll_cons_mk (Below.trod laidOut (by kernel_rfl) (of_decide_eq_true (by kernel_rfl)) k3 bel lt3) trodAll_mk0)))), rfl, bel.frame _, fun h => by cases h⟩

theorem overQ : Rows.quietRow.holds Try.pinned (OpenSpec.ofChange Rows.quietSpec) :=
  OpenClaim.holds_of_wide 8 Try.f8 rfl rfl rfl rfl rfl rfl rfl ⟨rfl, rfl, rfl, rfl, rfl⟩ rfl rfl rfl rfl rfl (by kernel_rfl) Try.func8 (by kernel_rfl)
    (of_decide_eq_true (by kernel_rfl)) (by unfold Func.isWrapper; first | (rw [if_pos (by decide +kernel)]; kernel_rfl) | (rw [if_neg (by decide +kernel)]; exact ⟨rfl, rfl⟩))
    (fun os started H enc _ => liftedQ os started H enc)

theorem quiet_holds : Rows.QuietSaid := overQ
end Go.Proofs.Ytndlmgocldckfaa
