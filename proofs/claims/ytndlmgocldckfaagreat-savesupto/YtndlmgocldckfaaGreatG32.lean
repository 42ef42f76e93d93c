import Derived.Test.YtndlmgocldckfaaGreatG31
import Derived.Test.YtndlmgocldckfaaGreatG13
import Derived.Test.YtndlmgocldckfaaGreatG03
import Derived.Test.YtndlmgocldckfaaGreatG08
import Derived.BigRegion
import Derived.BigQuiet
import Derived.Deep.RegionHeld3
import Derived.Deep.RegionLaw
namespace Go.Proofs.YtndlmgocldckfaaGreat
open Go.RowKit
set_option linter.unusedVariables false
set_option linter.unusedSimpArgs false
set_option maxRecDepth 100000
set_option maxHeartbeats 4000000
def hasF (n : Int) (q : List Ev) : Bool := q.any fun e => decide (e.number = n)
theorem hasF_false {n : Int} {q : List Ev} (h : hasF n q = false) : ∀ e ∈ q, e.number ≠ n := by
 intro e he hc
 have : hasF n q = true := List.any_eq_true.2 ⟨e, he, by simpa using hc⟩
 rw [h] at this; cases this
theorem hasF_true {n : Int} {q : List Ev} (h : hasF n q = true) : ∃ e ∈ q, e.number = n := by
 obtain ⟨e, he, hn⟩ := List.any_eq_true.1 h
 exact ⟨e, he, by simpa using hn⟩
theorem qHas_any {base : Nat} (qb mb : Nat) (ov : Value) (q : List Ev) (n : Int) (w : World) (h : QueP base w qb mb ov q) :
  Calls Tryz.prog 123 #[.pointer (some ⟨qb, 0, none⟩), .int .i64 n] w fun e w' => e = .returned (.bool (hasF n q)) ∧ Below w.heap.size w w' := by
 obtain ⟨es, clock, hm, hq⟩ := h.map
 have h0 := h.c0
 rcases hh : hasF n q with _ | _
 ·have hrun := run_lookup_miss hm hq (hasF_false hh)
  clear hm hq h hh
  go_enter Tryz.func123, Tryz.ntmps123
  go_wp2
  go_ret
  exact ⟨rfl, (Below.refl _ _).alloc (Nat.le_refl _) _⟩
 ·obtain ⟨e, he, rfl⟩ := hasF_true hh
  have hrun := run_lookup_ok (W := w) hm hq he h.distinct true
  simp only [evVal] at hrun
  clear hm hq h hh
  go_enter Tryz.func123, Tryz.ntmps123
  go_wp2
  go_ret
  exact ⟨rfl, (Below.refl _ _).alloc (Nat.le_refl _) _⟩
structure LdR (R : Nat → Prop) (base : Nat) (w wr : World) (kb qb mb rb g : Nat) (ov0 ov : Value) (ents : Int) (ks : List (List Ins)) (draws : List Int) (s : KS) (l : List Int) (flt : Bool) : Prop where
 ker : KerP R base wr kb qb mb ov ents ks draws s
 rd : RdP wr rb g l flt
 sepr : ¬ KSet kb qb mb ov rb
 sepg : ¬ KSet kb qb mb ov g
 nr : ¬ R rb
 only : Only (fun b => KSet kb qb mb ov0 b ∨ b = rb) w wr
 moved : Moved w ov0 ov
 base : base ≤ wr.heap.size
section
variable {R : Nat → Prop} {base : Nat} {w wr w' : World} {kb qb mb rb g : Nat} {ov0 ov ov' : Value} {ents : Int} {ks : List (List Ins)} {draws : List Int} {s s' : KS} {l l' : List Int} {flt flt' : Bool}
theorem LdR.read (h : LdR R base w wr kb qb mb rb g ov0 ov ents ks draws s l flt) (ho : Only (· = rb) wr w') (hr : RdP w' rb g l' flt') : LdR R base w w' kb qb mb rb g ov0 ov ents ks draws s l' flt' := by
 have hz := ho.size
 exact ⟨h.ker.only ho (fun b hb hc => by subst hc; exact h.sepr hb) (fun b hb hc => by subst hc; exact h.nr hb), hr, h.sepr, h.sepg, h.nr, h.only.trans (ho.mono (fun k _ hk => .inr hk)), h.moved, by have := h.base; omega⟩
theorem LdR.fresh (h : LdR R base w wr kb qb mb rb g ov0 ov ents ks draws s l flt) (hb : Below wr.heap.size wr w') : LdR R base w w' kb qb mb rb g ov0 ov ents ks draws s l flt := by
 have hz := hb.size
 exact ⟨h.ker.below hb, h.rd.only (Only.new (S := fun _ => False) hb) (by simp) (by simp), h.sepr, h.sepg, h.nr, h.only.trans (Only.new hb), h.moved, by have := h.base; omega⟩
theorem LdR.put {q' : List Ev} (h : LdR R base w wr kb qb mb rb g ov0 ov ents ks draws s l flt) (ho : Only (QSet qb mb ov) wr w') (hq : QueP base w' qb mb ov' q') (hm : Moved wr ov ov') : LdR R base w w' kb qb mb rb g ov0 ov' ents ks draws { s with q := q' } l flt := by
 have hz := ho.size
 have hrl := h.rd.lt
 have hgl := h.rd.glt
 have hzw := h.only.size
 have keep : ∀ b, b < wr.heap.size → ¬ KSet kb qb mb ov b → ¬ KSet kb qb mb ov' b := by
  rintro b hb hn (hc | hc | hc | hc)
  ·exact hn (.inl hc)
  ·exact hn (.inr (.inl hc))
  ·exact hn (.inr (.inr (.inl hc)))
  ·rcases hm with e | ⟨g', e, hg'⟩
   ·exact hn (.inr (.inr (.inr (hc.trans e))))
   ·rw [e] at hc; simp at hc; omega
 refine ⟨h.ker.queue ho hq hm, h.rd.only ho (fun hc => h.sepr (.inr hc)) (fun hc => h.sepg (.inr hc)), keep rb hrl h.sepr, keep g hgl h.sepg, h.nr, ?_, ?_, by have := h.base; omega⟩
 ·refine h.only.chain ho ?_
  rintro i hi (hc | hc | hc)
  ·exact .inl (.inr (.inl hc))
  ·exact .inl (.inr (.inr (.inl hc)))
  ·rcases h.moved with e | ⟨g', e, hg'⟩
   ·exact .inl (.inr (.inr (.inr (hc.trans e))))
   ·rw [e] at hc; simp at hc; omega
 ·rcases hm with e | ⟨g', e, hg'⟩
  ·rcases h.moved with e' | ⟨g2, e', hg2⟩
   ·exact .inl (e.trans e')
   ·exact .inr ⟨g2, e.trans e', hg2⟩
  ·exact .inr ⟨g', e, by omega⟩
theorem LdR.other {ab : Nat} (h : LdR R base w wr kb qb mb rb g ov0 ov ents ks draws s l flt) (ho : Only (· = ab) wr w') (h1 : ¬ KSet kb qb mb ov ab) (h2 : ¬ R ab) (h3 : ab ≠ rb) (h4 : ab ≠ g) (h5 : w.heap.size ≤ ab) : LdR R base w w' kb qb mb rb g ov0 ov ents ks draws s l flt := by
 have hz := ho.size
 exact ⟨h.ker.only ho (fun b hb hc => by subst hc; exact h1 hb) (fun b hb hc => by subst hc; exact h2 hb), h.rd.only ho (Ne.symm h3) (Ne.symm h4), h.sepr, h.sepg, h.nr, h.only.chain ho (fun i hi hc => by omega), h.moved, by have := h.base; omega⟩
theorem LdR.set (h : LdR R base w wr kb qb mb rb g ov0 ov ents ks draws s l flt) (o : Nat) (v : Value) (hk : KerP R base (wr.setCell ⟨kb, o, none⟩ v) kb qb mb ov ents ks draws s') : LdR R base w (wr.setCell ⟨kb, o, none⟩ v) kb qb mb rb g ov0 ov ents ks draws s' l flt := by
 have ho : Only (· = kb) wr (wr.setCell ⟨kb, o, none⟩ v) := (Only.refl (· = kb) wr).setCell (p := ⟨kb, o, none⟩) (show kb = kb from rfl) _
 have hz := ho.size
 exact ⟨hk, h.rd.only ho (fun hc => h.sepr (.inl hc)) (fun hc => h.sepg (.inl hc)), h.sepr, h.sepg, h.nr, h.only.trans (ho.mono (fun k _ hk => .inl (.inl hk))), h.moved, by have := h.base; omega⟩
end
def queRF (ents : Int) (nk : Nat) (next : Int) : Nat → Int → Int → List Ev → List Int → Bool → Bool × List Ev × List Int × Bool
 | 0, _, _, q, l, f => (true, q, l, f)
 | n + 1, t, an, q, l, f =>
  if hasF (evRF ents nk next t an l f).1.number q then (false, q, (evRF ents nk next t an l f).2)
  else queRF ents nk next n (evRF ents nk next t an l f).1.time (evRF ents nk next t an l f).1.number (insF (evRF ents nk next t an l f).1 q) (evRF ents nk next t an l f).2.1 (evRF ents nk next t an l f).2.2
def queueRF (ents : Int) (nk : Nat) (next clock : Int) (q : List Ev) (l : List Int) (f : Bool) : Bool × List Ev × List Int × Bool :=
 queRF ents nk next (readF 0 16 l f).1.toNat clock 0 q (readF 0 16 l f).2.1 (readF 0 16 l f).2.2
theorem evRF_le {ents : Int} {nk : Nat} {next t an : Int} {l : List Int} {f : Bool} (ht : 0 ≤ t ∧ t ≤ 1000000000000) (ha : 0 ≤ an) (hn : next ≤ 1000000000) : 0 ≤ (evRF ents nk next t an l f).1.time ∧ (evRF ents nk next t an l f).1.time ≤ 1000000000000 ∧ 0 ≤ (evRF ents nk next t an l f).1.number ∧ (evRF ents nk next t an l f).1.number ≤ 1000000000 := by
 have h1 := readF_le 0 (1000000000000 - t) (by omega) l f
 simp only [evRF]
 generalize readF 0 (1000000000000 - t) l f = a at h1
 have h0 : 0 ≤ lessF a.1 an := by unfold lessF; split <;> omega
 have h2 := readF_le (lessF a.1 an) (next - 1) h0 a.2.1 a.2.2
 omega
structure EvAt (w : World) (ab : Nat) (an t k0 e0 : Int) : Prop where
 c0 : w.cell? ⟨ab, 0, none⟩ = some (.int .i64 an)
 c1 : w.cell? ⟨ab, 1, none⟩ = some (.int .i64 t)
 c2 : w.cell? ⟨ab, 2, none⟩ = some (.int .i64 k0)
 c3 : w.cell? ⟨ab, 3, none⟩ = some (.int .i64 e0)
 room : Room w ab 4
theorem EvAt.only {w w' : World} {ab : Nat} {an t k0 e0 : Int} {U : Nat → Prop} (h : EvAt w ab an t k0 e0) (ho : Only U w w') (hn : ¬ U ab) : EvAt w' ab an t k0 e0 :=
 ⟨ho.at h.c0 hn, ho.at h.c1 hn, ho.at h.c2 hn, ho.at h.c3 hn, h.room.only ho hn⟩
structure RqI (R : Nat → Prop) (base : Nat) (w wr : World) (kb qb mb rb g ab : Nat) (ov0 ov : Value) (ents : Int) (ks : List (List Ins)) (draws : List Int) (s : KS) (q : List Ev) (l : List Int) (flt : Bool) (an t k0 e0 : Int) (n : Nat) (RES : Bool × List Ev × List Int × Bool) : Prop where
 ld : LdR R base w wr kb qb mb rb g ov0 ov ents ks draws { s with q := q } l flt
 ev : EvAt wr ab an t k0 e0
 sep : ¬ KSet kb qb mb ov ab
 ne : ab ≠ rb ∧ ab ≠ g
 nr : ¬ R ab
 wlt : w.heap.size ≤ ab
 res : queRF ents ks.length s.next n t an q l flt = RES
theorem rQueue_any {R : Nat → Prop} {base : Nat} (kb qb mb rb g : Nat) (ov0 ov : Value) (ents : Int) (ks : List (List Ins)) (draws : List Int) (s : KS) (l : List Int) (flt : Bool) (w wr : World) (h : LdR R base w wr kb qb mb rb g ov0 ov ents ks draws s l flt) (he : 1 ≤ ents ∧ ents ≤ 8) (hk : ks.length ≤ 8) (hq : s.q = []) (hc : 0 ≤ s.clock ∧ s.clock ≤ 1000000000000) (hn : 0 ≤ s.next ∧ s.next ≤ 1000000000) :
  Calls Tryz.prog 106 #[.pointer (some ⟨kb, 0, none⟩), .pointer (some ⟨rb, 0, none⟩)] wr fun e w' => e = .returned (.bool (queueRF ents ks.length s.next s.clock [] l flt).1) ∧ ∃ ov', LdR R base w w' kb qb mb rb g ov0 ov' ents ks draws { s with q := (queueRF ents ks.length s.next s.clock [] l flt).2.1 } (queueRF ents ks.length s.next s.clock [] l flt).2.2.1 (queueRF ents ks.length s.next s.clock [] l flt).2.2.2 := by
 have H := hide h
 have c4 := h.ker.c4
 have hkl := h.ker.klt
 clear h
 go_enter Tryz.func106, Tryz.ntmps106
 go_wp2_with fail
 obtain ⟨W0, hW0⟩ : ∃ W0, W0 = wr.alloc (.cells #[.int .i64 0, .int .i64 s.clock, .int .i64 0, .int .i64 0] 171) := ⟨_, rfl⟩
 have hb0 : Below wr.heap.size wr W0 := by rw [hW0]; exact (Below.refl _ _).alloc (Nat.le_refl _) _
 have hz0 : W0.heap.size = wr.heap.size + 1 := by rw [hW0]; simp
 have x0 : W0.cell? ⟨wr.heap.size, 0, none⟩ = some (.int .i64 0) := by rw [hW0]; simp [go_sem]
 have x1 : W0.cell? ⟨wr.heap.size, 1, none⟩ = some (.int .i64 s.clock) := by rw [hW0]; simp [go_sem]
 have x2 : W0.cell? ⟨wr.heap.size, 2, none⟩ = some (.int .i64 0) := by rw [hW0]; simp [go_sem]
 have x3 : W0.cell? ⟨wr.heap.size, 3, none⟩ = some (.int .i64 0) := by rw [hW0]; simp [go_sem]
 have xr : Room W0 wr.heap.size 4 := by
  rw [hW0]
  intro j hj
  have : j = 0 ∨ j = 1 ∨ j = 2 ∨ j = 3 := by omega
  rcases this with rfl | rfl | rfl | rfl <;> simp [go_sem]
 rw [← hW0]
 clear hW0 c4
 have H0 := hide (H.out.fresh hb0)
 have hrl := H.out.rd.lt
 clear hb0
 have hle := readF_le 0 16 (by omega) l flt
 have HQ : Hid (queueRF ents ks.length s.next s.clock [] l flt = queRF ents ks.length s.next (readF 0 16 l flt).1.toNat s.clock 0 [] (readF 0 16 l flt).2.1 (readF 0 16 l flt).2.2) := by show _ = _; rfl
 refine (rNum_any rb g l flt 0 16 W0 H0.out.rd).mono ?_
 rintro e w1 ⟨rfl, ho1, hr1⟩
 have H1 := hide (H0.out.read ho1 hr1)
 have y0 := ho1.at x0 (by omega)
 have y1 := ho1.at x1 (by omega)
 have y2 := ho1.at x2 (by omega)
 have y3 := ho1.at x3 (by omega)
 have yr := xr.only ho1 (by omega)
 have hz1 := ho1.size
 generalize readF 0 16 l flt = p at hle HQ H1 ⊢
 obtain ⟨v, l1, f1⟩ := p
 simp only at hle HQ H1 ⊢
 obtain ⟨N, rfl⟩ := Int.eq_ofNat_of_zero_le (show 0 ≤ v by omega)
 simp only [Int.toNat_natCast] at HQ
 have hN : N ≤ 16 := by omega
 have Hab : Hid (¬ KSet kb qb mb ov wr.heap.size) := fun hc => by have := H.out.ker.lt _ hc; omega
 clear ho1 hr1 x0 x1 x2 x3 xr hle
 go_wp2_with fail
 have HI1 : Hid (RqI R base w w1 kb qb mb rb g wr.heap.size ov0 ov ents ks draws s [] l1 f1 0 s.clock 0 0 N (queueRF ents ks.length s.next s.clock [] l flt)) := by
  refine ⟨?_, ⟨y0, y1, y2, y3, yr⟩, Hab.out, ⟨by omega, by have := H.out.rd.glt; omega⟩, fun hc => by have := H.out.ker.rlt _ hc; omega, H.out.only.size, HQ.out.symm⟩
  have := H1.out
  rw [← hq]
  exact this
 generalize hRES : queueRF ents ks.length s.next s.clock [] l flt = RES at HI1 ⊢
 have HRES := hide hRES
 clear hRES
 generalize wr.heap.size = ab at *
 clear y0 y1 y2 y3 yr H0 H1 H HQ
 go_loopg [15] 20 (fun gf s15 wx => ∃ (i : Nat) (ovi : Value) (q : List Ev) (li : List Int) (fi : Bool) (an t k0 e0 : Int), s15 = .int .i64 i ∧ N - i + 1 ≤ gf ∧ i ≤ N ∧ q.length = i ∧ (0 ≤ t ∧ t ≤ 1000000000000) ∧ (0 ≤ an ∧ an ≤ 1000000000) ∧ Hid (RqI R base w wx kb qb mb rb g ab ov0 ovi ents ks draws s q li fi an t k0 e0 (N - i) RES))
 case atStart => exact ⟨0, ov, [], l1, f1, 0, s.clock, 0, 0, rfl, by omega, by omega, rfl, hc, by omega, HI1.out⟩
 case round =>
  obtain ⟨i, ovi, q, li, fi, an, t, k0, e0, rfl, hgf, hi, hql, ht, han, hI⟩ := hrel
  by_cases hlt : i < N
  ·have d1 : decide ((i : Int) < (N : Int)) = true := by simp; omega
   have hw : IntKind.i64.wrap ((i : Int) + 1) = (i : Int) + 1 := by rw [IntKind.wrap_i64]; omega
   have a0 := hI.out.ev.c0
   have a1 := hI.out.ev.c1
   have a2 := hI.out.ev.c2
   have a3 := hI.out.ev.c3
   have HX := hide (rEv_any kb qb mb ovi ents ks draws { s with q := q } rb g li fi t an k0 e0 _ hI.out.ld.ker he hk hI.out.ld.rd (fun hc => hI.out.ld.sepr (.inl hc)) ht han hn)
   have Hle := hide (evRF_le (ents := ents) (nk := ks.length) (next := s.next) (l := li) (f := fi) ht han.1 hn.2)
   have HR := hide hI.out.res
   rw [show N - i = (N - (i + 1)) + 1 by omega, queRF] at HR
   go_wp2_with fail
   refine HX.out.mono ?_
   rintro e w2 ⟨rfl, ho2, hr2⟩
   simp only at hr2 ⊢
   generalize evRF ents ks.length s.next t an li fi = x at hr2 HR Hle ⊢
   obtain ⟨⟨et, en, ek, ee⟩, l2, f2⟩ := x
   simp only [evVal] at hr2 HR Hle ⊢
   have HL2 := hide (hI.out.ld.read ho2 hr2)
   have HE2 := hide (hI.out.ev.only ho2 hI.out.ne.1)
   have hz2 := ho2.size
   clear a0 a1 a2 a3 ho2 hr2 HX
   go_wp2_with fail
   obtain ⟨W3, hW3⟩ : ∃ W3, W3 = w2.alloc (.cells #[.int .i64 en, .int .i64 et, .int .i64 ek, .int .i64 ee] 171) := ⟨_, rfl⟩
   have hb3 : Below w2.heap.size w2 W3 := by rw [hW3]; exact (Below.refl _ _).alloc (Nat.le_refl _) _
   have hz3 : W3.heap.size = w2.heap.size + 1 := by rw [hW3]; simp
   have x0 : W3.cell? ⟨w2.heap.size, 0, none⟩ = some (.int .i64 en) := by rw [hW3]; simp [go_sem]
   have x1 : W3.cell? ⟨w2.heap.size, 1, none⟩ = some (.int .i64 et) := by rw [hW3]; simp [go_sem]
   have x2 : W3.cell? ⟨w2.heap.size, 2, none⟩ = some (.int .i64 ek) := by rw [hW3]; simp [go_sem]
   have x3 : W3.cell? ⟨w2.heap.size, 3, none⟩ = some (.int .i64 ee) := by rw [hW3]; simp [go_sem]
   rw [← hW3]
   clear hW3
   have HL3 := hide (HL2.out.fresh hb3)
   have HE3 := hide (HE2.out.only (Only.new (S := fun _ => False) hb3) (by simp))
   have p3 := HL3.out.ker.c3
   have hkl3 := HL3.out.ker.klt
   have HH := hide (qHas_any qb mb ovi q en W3.drew (HL3.out.ker.que.below (Below.refl _ _).drew))
   clear hb3
   go_region_held3 (fun W' => W'.cell? ⟨kb, 3, none⟩ = some (.pointer (some ⟨qb, 0, none⟩)) ∧ W'.cell? ⟨w2.heap.size, 0, none⟩ = some (.int .i64 en))
    (first | exact ⟨p3, x0⟩ | exact ⟨below_at hb4 p3 (by omega), below_at hb4 x0 (by omega)⟩)
    (first | (go_at_call 123; refine HH.out.mono ?_; rintro e' w4 ⟨rfl, hb4'⟩; (have hb4 : Below W3.heap.size W3 w4 := (Below.refl _ _).drew.trans hb4')))
   have hz4 := hb4.size
   have HL4 := hide (HL3.out.fresh hb4)
   have HE4 := hide (HE3.out.only (Only.new (S := fun _ => False) hb4) (by simp))
   have z0 := below_at hb4 x0 (by omega)
   have z1 := below_at hb4 x1 (by omega)
   have z2 := below_at hb4 x2 (by omega)
   have z3 := below_at hb4 x3 (by omega)
   clear hb4 hb4' HH x0 x1 x2 x3 p3
   rcases hh : hasF en q with _ | _
   ·have p4 := HL4.out.ker.c3
    have hres := HR.out
    rw [hh, if_neg (by simp)] at hres
    have Hres := hide hres
    have HP := hide (qPut_any qb mb ovi q ⟨et, en, ek, ee⟩ w4.drew (HL4.out.ker.que.below (Below.refl _ _).drew) HL4.out.base (by omega) (hasF_false hh))
    have Hne4 : Hid (¬ QSet qb mb ovi w2.heap.size) := fun hc => by have := HL2.out.ker.lt _ (.inr hc); omega
    have Hkq := hide HL4.out.ker.kq
    clear hres
    go_wp2_with fail
    go_region_held3 (fun W' => W'.cell? ⟨kb, 3, none⟩ = some (.pointer (some ⟨qb, 0, none⟩)) ∧ W'.cell? ⟨w2.heap.size, 0, none⟩ = some (.int .i64 en) ∧ W'.cell? ⟨w2.heap.size, 1, none⟩ = some (.int .i64 et) ∧ W'.cell? ⟨w2.heap.size, 2, none⟩ = some (.int .i64 ek) ∧ W'.cell? ⟨w2.heap.size, 3, none⟩ = some (.int .i64 ee))
     (first | exact ⟨p4, z0, z1, z2, z3⟩ | exact ⟨ho5.at (w := w4.drew) p4 Hkq.out, ho5.at (w := w4.drew) z0 Hne4.out, ho5.at (w := w4.drew) z1 Hne4.out, ho5.at (w := w4.drew) z2 Hne4.out, ho5.at (w := w4.drew) z3 Hne4.out⟩)
     (first | (go_at_call 114; refine HP.out.mono ?_; rintro e' w5 ⟨ov5, rfl, ho5, hq5, hm5⟩))
    have hz5 := ho5.size
    have hO5 : Only (QSet qb mb ovi) w4 w5 := (Only.new (Below.refl _ _).drew).trans ho5
    have HL5 := hide (HL4.out.put hO5 hq5 hm5)
    have HE5 := hide (HE4.out.only hO5 (fun hc => hI.out.sep (.inr hc)))
    have u0 := hO5.at z0 Hne4.out
    have u1 := hO5.at z1 Hne4.out
    have u2 := hO5.at z2 Hne4.out
    have u3 := hO5.at z3 Hne4.out
    have hsep5 : ¬ KSet kb qb mb ov5 ab := by
     have habl := lt_of_cell HE4.out.c0
     rintro (hc | hc | hc | hc)
     ·exact hI.out.sep (.inl hc)
     ·exact hI.out.sep (.inr (.inl hc))
     ·exact hI.out.sep (.inr (.inr (.inl hc)))
     ·rcases hm5 with e | ⟨g', e, hg'⟩
      ·exact hI.out.sep (.inr (.inr (.inr (hc.trans e))))
      ·rw [e] at hc
       simp at hc
       have : w4.heap.size ≤ g' := hg'
       omega
    have Hsep5 := hide hsep5
    obtain ⟨s0, v0⟩ := HE5.out.room 0 (by omega)
    obtain ⟨s1, v1⟩ := HE5.out.room 1 (by omega)
    obtain ⟨s2, v2⟩ := HE5.out.room 2 (by omega)
    obtain ⟨s3, v3⟩ := HE5.out.room 3 (by omega)
    have r0 := HE5.out.c0
    have r1 := HE5.out.c1
    have r2 := HE5.out.c2
    have r3 := HE5.out.c3
    have hne2 : ¬ ab = w2.heap.size := by have := lt_of_cell HE2.out.c0; omega
    clear ho5 hq5 hm5 hO5 z0 z1 z2 z3 p4 HP hsep5 s0 s1 s2 s3
    go_wp2_with fail
    go_roundg (N - (i + 1) + 1)
    case measure => omega
    case rel =>
     have hoZ : Only (· = ab) w5 (set4 w5 ab 0 ⟨en, et, ek, ee⟩) := (Only.refl (· = ab) w5).set4 (b := ab) (show ab = ab from rfl) 0 _
     obtain ⟨q0, q1, q2, q3⟩ := set4_same w5 ab 0 4 ⟨en, et, ek, ee⟩ HE5.out.room (by omega)
     have hrm := HE5.out.room.set4 ab 0 ⟨en, et, ek, ee⟩
     obtain ⟨b1, b2, b3, b4⟩ := Hle.out
     refine ⟨i + 1, ov5, insF ⟨et, en, ek, ee⟩ q, l2, f2, en, et, ek, ee, by go_num, Nat.le_refl _, by omega, by rw [insF_length]; omega, ⟨b1, b2⟩, ⟨b3, b4⟩, ⟨?_, ⟨q0, q1, q2, q3, hrm⟩, Hsep5.out, hI.out.ne, hI.out.nr, hI.out.wlt, Hres.out⟩⟩
     exact HL5.out.other hoZ Hsep5.out hI.out.nr hI.out.ne.1 hI.out.ne.2 hI.out.wlt
   ·have hres := HR.out
    rw [hh, if_pos rfl] at hres
    have Hres := hide hres
    clear hres
    go_wp2_with fail
    go_ret
    rw [HRES.out, ← Hres.out]
    exact ⟨rfl, ovi, HL4.out⟩
  ·have d1 : decide ((i : Int) < (N : Int)) = false := by simp; omega
   have hres := hI.out.res
   rw [show N - i = 0 by omega, queRF] at hres
   have Hres := hide hres
   clear hres
   go_wp2_with fail
   go_ret
   rw [HRES.out, ← Hres.out]
   exact ⟨rfl, ovi, hI.out.ld⟩
def evL (ents : Int) (nk : Nat) (next t : Int) (l : List Int) (bad : Bool) : Ev × List Int × Bool :=
 let a := numL 0 1000000000000 l bad
 let b := numL 1 (next - 1) a.2.1 a.2.2
 let c := numL 0 (nk - 1) b.2.1 b.2.2
 let d := numL 0 (ents - 1) c.2.1 c.2.2
 (⟨t + a.1, b.1, c.1, d.1⟩, d.2)
def lastN (q : List Ev) : Int := (q.getLast?.map (·.number)).getD 0
def wrongF (t : Int) (q : List Ev) (e : Ev) : Bool := decide (1000000000000 < e.time) || (decide (0 < q.length) && (decide (e.time = t) && decide (e.number < lastN q)))
def quL (ents : Int) (nk : Nat) (next : Int) : Nat → Int → List Ev → List Int → Bool → List Ev × List Int × Bool
 | 0, _, q, l, bad => (q, l, bad)
 | n + 1, t, q, l, bad => if bad then (q, l, bad) else
  quL ents nk next n (evL ents nk next t l bad).1.time (q ++ [(evL ents nk next t l bad).1]) (evL ents nk next t l bad).2.1 (((evL ents nk next t l bad).2.2 || hasF (evL ents nk next t l bad).1.number q) || wrongF t q (evL ents nk next t l bad).1)
structure LkP (R : Nat → Prop) (lo : Nat) (w : World) (rb gb : Nat) (ents : Int) (ks : List (List Ins)) (draws : List Int) (s : KS) (qv : Value) (m : Nat) : Prop where
 c0 : w.cell? ⟨rb, 0, none⟩ = some (.int .i64 ents)
 kinds : ∃ kv, w.cell? ⟨rb, 1, none⟩ = some kv ∧ KindsIn R w kv ks
 draw : ∃ dv, w.cell? ⟨rb, 2, none⟩ = some dv ∧ IntsIn R w dv draws
 c3 : w.cell? ⟨rb, 3, none⟩ = some (.int .i64 s.taken)
 c4 : w.cell? ⟨rb, 4, none⟩ = some (.int .i64 s.clock)
 c5 : w.cell? ⟨rb, 5, none⟩ = some (.int .i64 s.next)
 c6 : w.cell? ⟨rb, 6, none⟩ = some (.slice (some ⟨gb, 0, none⟩) m m)
 regs : ∀ j, j < m → w.cell? ⟨gb, j, none⟩ = some (.int .i64 (s.regs j))
 rroom : Room w gb m
 c7 : w.cell? ⟨rb, 7, none⟩ = some qv
 que : w.ownsRow lo 143 4 qv s.q.length (flat (s.q.map evIns))
 room : Room w rb 8
 far : ∀ b, R b → b < w.heap.size ∧ b ≠ rb ∧ b ≠ gb ∧ some b ≠ qv.ownBlock
 ne : rb ≠ gb
 glt : gb < w.heap.size
 qr : some rb ≠ qv.ownBlock
 qg : some gb ≠ qv.ownBlock
def LkP.Set (rb gb : Nat) (qv : Value) (b : Nat) : Prop := b = rb ∨ b = gb ∨ some b = qv.ownBlock
section
variable {R : Nat → Prop} {lo : Nat} {w w' : World} {rb gb : Nat} {ents : Int} {ks : List (List Ins)} {draws : List Int} {s : KS} {qv : Value} {m : Nat}
theorem LkP.only {S : Nat → Prop} (h : LkP R lo w rb gb ents ks draws s qv m) (ho : Only S w w') (hS : ∀ b, LkP.Set rb gb qv b → ¬ S b) (hR : ∀ b, R b → ¬ S b) : LkP R lo w' rb gb ents ks draws s qv m := by
 have hr := hS rb (.inl rfl)
 have hg := hS gb (.inr (.inl rfl))
 obtain ⟨kv, k1, k2⟩ := h.kinds
 obtain ⟨dv, d1, d2⟩ := h.draw
 have hz := ho.size
 exact ⟨ho.at h.c0 hr, ⟨kv, ho.at k1 hr, k2.only ho hR⟩, ⟨dv, ho.at d1 hr, d2.only ho hR⟩, ho.at h.c3 hr, ho.at h.c4 hr, ho.at h.c5 hr, ho.at h.c6 hr, fun j hj => ho.at (h.regs j hj) hg, h.rroom.only ho hg, ho.at h.c7 hr, owns_keep h.que ho (fun b hb => hS b (.inr (.inr hb))), h.room.only ho hr, fun b hb => ⟨Nat.lt_of_lt_of_le (h.far b hb).1 hz, (h.far b hb).2⟩, h.ne, Nat.lt_of_lt_of_le h.glt hz, h.qr, h.qg⟩
theorem LkP.below (h : LkP R lo w rb gb ents ks draws s qv m) (hb : Below w.heap.size w w') : LkP R lo w' rb gb ents ks draws s qv m := h.only (Only.new (S := fun _ => False) hb) (by simp) (by simp)
theorem LkP.rlt (h : LkP R lo w rb gb ents ks draws s qv m) : rb < w.heap.size := lt_of_cell h.c0
end
structure LdS (R : Nat → Prop) (lo : Nat) (w0 w : World) (rb gb db : Nat) (ents : Int) (ks : List (List Ins)) (draws : List Int) (s : KS) (qv : Value) (m : Nat) (all l : List Int) (bad : Bool) : Prop where
 bel : Below lo w0 w
 ker : LkP R lo w rb gb ents ks draws s qv m
 rd : RdS w db all l bad
 sep : ¬ LkP.Set rb gb qv db
 rsep : ¬ R db
 los : lo ≤ rb ∧ lo ≤ gb ∧ lo ≤ db ∧ lo ≤ w.heap.size
section
variable {R : Nat → Prop} {lo : Nat} {w0 w w' : World} {rb gb db : Nat} {ents : Int} {ks : List (List Ins)} {draws : List Int} {s : KS} {qv : Value} {m : Nat} {all l l' : List Int} {bad bad' : Bool}
theorem LdS.read (h : LdS R lo w0 w rb gb db ents ks draws s qv m all l bad) (ho : Only (· = db) w w') (hr : RdS w' db all l' bad') : LdS R lo w0 w' rb gb db ents ks draws s qv m all l' bad' := by
 have hz := ho.size
 refine ⟨h.bel.trans (ho.below h.los.2.2.2 (fun k hk hc => by have := h.los.2.2.1; omega)), h.ker.only ho (fun b hb hc => h.sep (hc ▸ hb)) (fun b hb hc => h.rsep (hc ▸ hb)), hr, h.sep, h.rsep, ⟨h.los.1, h.los.2.1, h.los.2.2.1, by have := h.los.2.2.2; omega⟩⟩
theorem LdS.fresh (h : LdS R lo w0 w rb gb db ents ks draws s qv m all l bad) (hb : Below w.heap.size w w') : LdS R lo w0 w' rb gb db ents ks draws s qv m all l bad := by
 have hz := hb.size
 exact ⟨h.bel.trans (hb.mono h.los.2.2.2), h.ker.below hb, h.rd.below hb, h.sep, h.rsep, ⟨h.los.1, h.los.2.1, h.los.2.2.1, by have := h.los.2.2.2; omega⟩⟩
theorem LdS.push {W w2 : World} {qv2 : Value} {e : Ev} (h : LdS R lo w0 w rb gb db ents ks draws s qv m all l bad) (hW : Below w.heap.size w W) (hg : W.grownBy w2 qv.ownBlock) (hown : w2.ownsRow lo 143 4 qv2 (s.q.length + 1) (flat (s.q.map evIns) ++ flat [evIns e])) (hwh : qv2.ownBlock = qv.ownBlock ∨ qv2.ownBlock = some W.heap.size) :
  LdS R lo w0 (w2.setCell ⟨rb, 7, none⟩ qv2) rb gb db ents ks draws { s with q := s.q ++ [e] } qv2 m all l bad := by
 have hz := hW.size
 have hz2 := hg.size
 have hrl := h.ker.rlt
 have hgl := h.ker.glt
 have ho : Only (fun b => some b = qv.ownBlock) w w2 := (Only.new hW).trans (only_of_grown hg)
 have hs : Only (· = rb) w2 (w2.setCell ⟨rb, 7, none⟩ qv2) := Only.setCell (S := (· = rb)) (Only.refl _ _) rfl _
 have hnew : ∀ b, b < w.heap.size → some b ≠ qv.ownBlock → some b ≠ qv2.ownBlock := by
  intro b hb hn hc
  rcases hwh with e' | e'
  ·rw [e'] at hc; exact hn hc
  ·rw [e'] at hc; have := Option.some.inj hc; omega
 have hcell : ∀ (j : Nat) u, j ≠ 7 → w.cell? ⟨rb, j, none⟩ = some u → (w2.setCell ⟨rb, 7, none⟩ qv2).cell? ⟨rb, j, none⟩ = some u := by
  intro j u hj hu
  rw [World.cell?_setCell_other _ _ _ _ (by simp; try omega)]
  exact ho.at hu h.ker.qr
 have hroom : Room w2 rb 8 := h.ker.room.only ho h.ker.qr
 have hoa : Only (fun b => b = rb ∨ some b = qv.ownBlock) w (w2.setCell ⟨rb, 7, none⟩ qv2) := (ho.mono (fun b _ hb => .inr hb)).trans (hs.mono (fun b _ hb => .inl hb))
 have hsz : (w2.setCell ⟨rb, 7, none⟩ qv2).heap.size = w2.heap.size := by simp [World.setCell]
 obtain ⟨kv, k1, k2⟩ := h.ker.kinds
 obtain ⟨dv, d1, d2⟩ := h.ker.draw
 have hRS : ∀ b, R b → ¬ (b = rb ∨ some b = qv.ownBlock) := by
  rintro b hb (e' | e')
  ·exact (h.ker.far b hb).2.1 e'
  ·exact (h.ker.far b hb).2.2.2 e'
 have hgS : ¬ (gb = rb ∨ some gb = qv.ownBlock) := by
  rintro (e' | e')
  ·exact h.ker.ne e'.symm
  ·exact h.ker.qg e'
 have hdS : ¬ (db = rb ∨ some db = qv.ownBlock) := by
  rintro (e' | e')
  ·exact h.sep (.inl e')
  ·exact h.sep (.inr (.inr e'))
 have hdl := h.rd.lt
 have hqr2 := hnew rb hrl h.ker.qr
 have hqg2 := hnew gb hgl h.ker.qg
 have hlos := h.los
 refine ⟨?_, ⟨hcell 0 _ (by omega) h.ker.c0, ⟨kv, hcell 1 _ (by omega) k1, k2.only hoa hRS⟩, ⟨dv, hcell 2 _ (by omega) d1, d2.only hoa hRS⟩, hcell 3 _ (by omega) h.ker.c3, hcell 4 _ (by omega) h.ker.c4, hcell 5 _ (by omega) h.ker.c5, hcell 6 _ (by omega) h.ker.c6, fun j hj => hoa.at (h.ker.regs j hj) hgS, h.ker.rroom.only hoa hgS, World.cell?_setCell_same' _ _ _ (hroom 7 (by omega)).1, ?_, hroom.setCell _ _, ?_, h.ker.ne, by omega, hqr2, hqg2⟩, h.rd.only hoa hdS, ?_, h.rsep, ⟨hlos.1, hlos.2.1, hlos.2.2.1, by omega⟩⟩
 ·refine h.bel.trans (hoa.below hlos.2.2.2 ?_)
  rintro b hb (e' | e')
  ·omega
  ·have := (h.ker.que.lt b e'.symm).1; omega
 ·have he : flat ((s.q ++ [e]).map evIns) = flat (s.q.map evIns) ++ flat [evIns e] := by simp [flat]
  show World.ownsRow _ _ _ _ _ (s.q ++ [e]).length (flat ((s.q ++ [e]).map evIns))
  rw [he, List.length_append]
  exact owns_keep hown hs (fun b hb e' => hqr2 (by rw [← hb, e']))
 ·intro b hb
  have hf := h.ker.far b hb
  exact ⟨by omega, hf.2.1, hf.2.2.1, hnew b hf.1 hf.2.2.2⟩
 ·rintro (e' | e' | e')
  ·exact h.sep (.inl e')
  ·exact h.sep (.inr (.inl e'))
  ·exact hnew db hdl (fun hc => h.sep (.inr (.inr hc))) e'
end
theorem strW_eq {a b : List Int} (ha : ∀ c ∈ a, 0 ≤ c ∧ c < 256) (hb : ∀ c ∈ b, 0 ≤ c ∧ c < 256) : ((strW a).toList == (strW b).toList) = decide (a = b) := by
 by_cases h : a = b
 ·subst h; simp
 ·rw [strNe ha hb h]; simp [h]
theorem strW_cut (l : List Int) (a b : Nat) : (strW l).extract a b = strW ((l.take b).drop a) := by
 refine ByteArray.ext ?_
 simp [strW, ByteArray.data_extract, List.map_drop, List.map_take]
 rw [List.drop_take]
theorem framed_any (hd l : List Int) (w : World) (hv : ∀ c ∈ l, 0 ≤ c ∧ c < 256) (hl : l.length ≤ 1000000000) (hhl : hd.length = 4) (hhb : ∀ c ∈ hd, 0 ≤ c ∧ c < 256) :
  Calls Tryz.prog 66 #[.string (strW l), .string (strW hd)] w fun e w' => e = .returned (.int .i64 (openE hd l)) ∧ Below w.heap.size w w' := by
 have Hv := hide hv
 have Hhb := hide hhb
 have hz : (strW l).size = l.length := strW_size l
 have hz2 : (strW hd).size = 4 := by rw [strW_size, hhl]
 clear hv hhb hhl
 by_cases h8 : l.length < 8
 ·have HF : Hid (openE hd l = 4) := by show _ = _; rw [openE, if_pos (.inl h8)]
  have d1 : decide ((l.length : Int) < 8) = true := by simp; omega
  go_enter Tryz.func66, Tryz.ntmps66
  go_wp2
  go_ret
  rw [HF.out]
  exact ⟨rfl, Below.refl _ _⟩
 ·have d1 : decide ((l.length : Int) < 8) = false := by simp; omega
  have h8' : 8 ≤ l.length := by omega
  have x1 : (strW l).extract 0 4 = strW (l.take 4) := by rw [strW_cut]; rfl
  have x2 : (strW l).extract 0 (l.length - 4) = strW (l.take (l.length - 4)) := by rw [strW_cut]; rfl
  have x3 : (strW l).extract (l.length - 4) l.length = strW (l.drop (l.length - 4)) := by rw [strW_cut, List.take_length]
  have t1 : ∀ c ∈ l.take 4, 0 ≤ c ∧ c < 256 := fun c hc => Hv.out c (List.mem_of_mem_take hc)
  have t2 : ∀ c ∈ l.take (l.length - 4), 0 ≤ c ∧ c < 256 := fun c hc => Hv.out c (List.mem_of_mem_take hc)
  have t3 : ∀ c ∈ l.drop (l.length - 4), 0 ≤ c ∧ c < 256 := fun c hc => Hv.out c (List.mem_of_mem_drop hc)
  have q1 := strW_eq t1 Hhb.out
  have q2 := strW_eq (sumB_bytes (l.take (l.length - 4))) t3
  have e4 : ((l.length : Int) - 4).toNat = l.length - 4 := by omega
  have HS := hide (rSum_any (l.take (l.length - 4)) w (by simp; omega) t2)
  clear t1 t2 t3
  by_cases h4 : l.take 4 = hd
  ·have q1' : ((strW (l.take 4)).toList == (strW hd).toList) = true := by rw [q1]; simpa using h4
   have Hq1 := hide h4
   clear q1 h4
   by_cases h5 : sumB (l.take (l.length - 4)) = l.drop (l.length - 4)
   ·have q2' : ((strW (sumB (l.take (l.length - 4)))).toList == (strW (l.drop (l.length - 4))).toList) = true := by rw [q2]; simpa using h5
    have HF : Hid (openE hd l = 0) := by show _ = _; rw [openE, if_neg (by rintro (h | h); exact h8 h; exact h Hq1.out), if_neg (fun h => h h5.symm)]
    clear q2 h5
    go_enter Tryz.func66, Tryz.ntmps66
    go_wp2_with (go_at_call 81; refine HS.out.mono ?_; rintro e w1 ⟨rfl, hb1⟩)
    go_ret
    rw [HF.out]
    exact ⟨rfl, hb1⟩
   ·have q2' : ((strW (sumB (l.take (l.length - 4)))).toList == (strW (l.drop (l.length - 4))).toList) = false := by rw [q2]; simpa using h5
    have HF : Hid (openE hd l = 5) := by show _ = _; rw [openE, if_neg (by rintro (h | h); exact h8 h; exact h Hq1.out), if_pos (fun h => h5 h.symm)]
    clear q2 h5
    go_enter Tryz.func66, Tryz.ntmps66
    go_wp2_with (go_at_call 81; refine HS.out.mono ?_; rintro e w1 ⟨rfl, hb1⟩)
    go_ret
    rw [HF.out]
    exact ⟨rfl, hb1⟩
  ·have q1' : ((strW (l.take 4)).toList == (strW hd).toList) = false := by rw [q1]; simpa using h4
   have HF : Hid (openE hd l = 4) := by show _ = _; rw [openE, if_pos (.inr h4)]
   clear q1 h4
   go_enter Tryz.func66, Tryz.ntmps66
   go_wp2
   go_ret
   rw [HF.out]
   exact ⟨rfl, Below.refl _ _⟩
end Go.Proofs.YtndlmgocldckfaaGreat
