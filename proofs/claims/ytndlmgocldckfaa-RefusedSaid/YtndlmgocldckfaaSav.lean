import Derived.Test.YtndlmgocldckfaaQOrd
import Derived.Test.YtndlmgocldckfaaWrB
import Derived.Test.YtndlmgocldckfaaKer
namespace Go.Proofs.Ytndlmgocldckfaa
open Go.RowKit
set_option linter.unusedVariables false
set_option linter.unusedSimpArgs false

/-! What Save writes. -/

def evB : Int → List Ev → List Int
  | _, [] => []
  | t, e :: q => numB (e.time - t) ++ (numB e.number ++ (numB e.kind ++ (numB e.entity ++ evB e.time q)))
def lastT (t : Int) (q : List Ev) : Int := (q.getLast?.map (·.time)).getD t
theorem evB_snoc : ∀ (t : Int) (q : List Ev) (e : Ev), evB t (q ++ [e]) = evB t q ++ (numB (e.time - lastT t q) ++ (numB e.number ++ (numB e.kind ++ numB e.entity)))
  | t, [], e => by simp [evB, lastT]
  | t, x :: q, e => by
    have := evB_snoc x.time q e
    rw [List.cons_append, evB, this, evB]
    have hl : lastT x.time q = lastT t (x :: q) := by
      unfold lastT
      cases q with
      | nil => simp
      | cons y q => rw [List.getLast?_cons_cons]; rcases h : (y :: q).getLast? with _ | z <;> simp_all
    rw [hl]
    simp
theorem lastT_snoc (t : Int) (q : List Ev) (i : Nat) (hi : i < q.length) : lastT t (q.take (i + 1)) = q[i].time := by
  unfold lastT
  rw [List.take_succ_eq_append_getElem hi, List.getLast?_append]
  simp
theorem lastT_le {t : Int} {q : List Ev} (hs : Sorted q) (h0 : ∀ e ∈ q, t ≤ e.time) (i : Nat) (hi : i < q.length) : t ≤ lastT t (q.take i) ∧ lastT t (q.take i) ≤ q[i].time := by
  rcases Nat.eq_zero_or_pos i with rfl | hp
  · simpa [lastT] using h0 q[0] (List.getElem_mem hi)
  · obtain ⟨k, rfl⟩ : ∃ k, i = k + 1 := ⟨i - 1, by omega⟩
    rw [lastT_snoc t q k (by omega)]
    have := List.pairwise_iff_getElem.1 hs k (k + 1) (by omega) hi (by omega)
    refine ⟨h0 _ (List.getElem_mem _), ?_⟩
    simp only [aheadF, Bool.or_eq_true, decide_eq_true_eq, Bool.and_eq_true] at this
    omega
theorem evRow_get : ∀ (q : List Ev) (i r : Nat), r < 4 → (evRow q)[i * 4 + r]? = q[i]?.bind fun e => (evCells e)[r]?
  | [], i, r, _ => by simp [evRow]
  | x :: l, 0, r, h => by
    have : r = 0 ∨ r = 1 ∨ r = 2 ∨ r = 3 := by omega
    rcases this with rfl | rfl | rfl | rfl <;> simp [evRow, evCells]
  | x :: l, i + 1, r, h => by
    have ih := evRow_get l i r h
    have e : (i + 1) * 4 + r = (i * 4 + r) + 1 + 1 + 1 + 1 := by omega
    rw [e]
    simpa [evRow, evCells] using ih
theorem evRow_at {w : World} {g : Nat} {q : List Ev} (h : RowAt w g 0 (evRow q)) (i : Nat) (hi : i < q.length) : w.cell? ⟨g, i * 4, none⟩ = some (.int .i64 q[i].number) ∧ w.cell? ⟨g, i * 4 + 1, none⟩ = some (.int .i64 q[i].time) ∧ w.cell? ⟨g, i * 4 + 2, none⟩ = some (.int .i64 q[i].kind) ∧ w.cell? ⟨g, i * 4 + 3, none⟩ = some (.int .i64 q[i].entity) := by
  have g4 := fun r (hr : r < 4) (v : Value) (hv : (evCells q[i])[r]? = some v) => h (i * 4 + r) v (by rw [evRow_get q i r hr, List.getElem?_eq_getElem hi]; exact hv)
  exact ⟨by simpa using g4 0 (by omega) _ rfl, by simpa using g4 1 (by omega) _ rfl, by simpa using g4 2 (by omega) _ rfl, by simpa using g4 3 (by omega) _ rfl⟩
def regB (s : KS) (n : Nat) : List Int := (List.range n).flatMap fun j => sgnB (s.regs j)
theorem regB_succ (s : KS) (n : Nat) : regB s (n + 1) = regB s n ++ sgnB (s.regs n) := by simp [regB, List.range_succ]
def bodyF (ents : Int) (nk : Nat) (s : KS) : List Int :=
  numB ents ++ (numB nk ++ (numB s.clock ++ (numB s.next ++ (numB s.taken ++ (regB s (ents.toNat * 4) ++ (numB s.q.length ++ evB s.clock s.q))))))

theorem evB_len : ∀ (t : Int) (q : List Ev), (evB t q).length ≤ q.length * 40
  | t, [] => by simp [evB]
  | t, e :: q => by
    have h1 := numB_len (e.time - t)
    have h2 := numB_len e.number
    have h3 := numB_len e.kind
    have h4 := numB_len e.entity
    have := evB_len e.time q
    simp [evB]; omega
theorem regB_len (s : KS) : ∀ n, (regB s n).length ≤ n * 10
  | 0 => by simp [regB]
  | n + 1 => by
    have := regB_len s n
    have h := numB_len (sgnI (s.regs n))
    rw [regB_succ, List.length_append]
    unfold sgnB
    omega

/-- As it is written: w the world when it began. -/
structure SvR (w wr : World) (wb : Nat) (lv : Value) (l : List Int) : Prop where
  below : Below w.heap.size w wr
  wr : WrP w.heap.size wr wb lv l
  wlt : w.heap.size ≤ wb

theorem SvR.num {w wr w2 : World} {wb : Nat} {lv lv2 : Value} {l l2 : List Int} (h : SvR w wr wb lv l) (k : NumR w.heap.size wr w2 wb lv lv2 l2) : SvR w w2 wb lv2 l2 := by
  refine ⟨h.below.trans (k.only.below h.below.size ?_), k.wr, h.wlt⟩
  rintro b hb (hc | hc)
  · have := h.wlt; omega
  · have := (h.wr.row.lt b hc).1; omega
theorem SvR.bel {w wr w2 : World} {wb : Nat} {lv : Value} {l : List Int} (h : SvR w wr wb lv l) (k : Below wr.heap.size wr w2) : SvR w w2 wb lv l := by
  have hz := h.below.size
  refine ⟨h.below.trans (k.mono hz), ⟨below_at k h.wr.cell (lt_of_cell h.wr.cell), h.wr.room.below k (lt_of_cell h.wr.cell), h.wr.row.keep (Only.new (S := fun _ => False) k) (by simp), h.wr.sep⟩, h.wlt⟩

/-- Blocks that a writer does not touch. -/
def Apart (wr : World) (wb : Nat) (lv : Value) (g : Nat) : Prop := g < wr.heap.size ∧ g ≠ wb ∧ some g ≠ lv.ownBlock
def Stay (wr : World) (wb : Nat) (lv : Value) (w' : World) (lv' : Value) : Prop := ∀ g, Apart wr wb lv g → Apart w' wb lv' g ∧ w'.heap[g]? = wr.heap[g]?
theorem Stay.refl (wr : World) (wb : Nat) (lv : Value) : Stay wr wb lv wr lv := fun g h => ⟨h, rfl⟩
theorem Stay.trans {a b c : World} {wb : Nat} {lv lv1 lv2 : Value} (h : Stay a wb lv b lv1) (k : Stay b wb lv1 c lv2) : Stay a wb lv c lv2 :=
  fun g hg => let ⟨h1, h2⟩ := h g hg; let ⟨k1, k2⟩ := k g h1; ⟨k1, k2.trans h2⟩
theorem Stay.at {a b : World} {wb : Nat} {lv lv1 : Value} (h : Stay a wb lv b lv1) {g o : Nat} {v : Value} (hg : Apart a wb lv g) (hc : a.cell? ⟨g, o, none⟩ = some v) : b.cell? ⟨g, o, none⟩ = some v :=
  (World.cell?_of_block (w := a) (a := ⟨g, o, none⟩) (h g hg).2).trans hc
theorem Stay.bel {a b c : World} {wb : Nat} {lv lv1 : Value} (h : Stay a wb lv b lv1) (k : Below b.heap.size b c) : Stay a wb lv c lv1 := by
  intro g hg
  obtain ⟨⟨h1, h2, h3⟩, h4⟩ := h g hg
  have := k.size
  exact ⟨⟨by omega, h2, h3⟩, (k.block g h1).trans h4⟩
theorem NumR.stay {base : Nat} {wr w' : World} {wb : Nat} {lv lv' : Value} {l : List Int} (h : NumR base wr w' wb lv lv' l) : Stay wr wb lv w' lv' := by
  rintro g ⟨h1, h2, h3⟩
  have hz := h.only.size
  refine ⟨⟨by omega, h2, ?_⟩, h.only.block g h1 (by rintro (hc | hc); exact h2 hc; exact h3 hc)⟩
  rcases h.moved with e | ⟨g', e, hg'⟩
  · rw [e]; exact h3
  · rw [e]; intro hc; simp at hc; omega

section
variable {w wr : World} {wb : Nat} {lv : Value} {l : List Int}
theorem sNum (n : Int) (h : SvR w wr wb lv l) (hl : l.length ≤ 1000000) (hn : 0 ≤ n ∧ n ≤ 9223372036854775807) :
    Calls Try.prog 50 #[.pointer (some ⟨wb, 0, none⟩), .int .i64 n] wr fun e w' => e = .returned (.tuple #[]) ∧ ∃ lv', SvR w w' wb lv' (l ++ numB n) ∧ Stay wr wb lv w' lv' :=
  (number_any _ wb lv l n wr h.wr h.below.size hl hn).mono (by rintro e w' ⟨rfl, lv', hN⟩; exact ⟨rfl, lv', h.num hN, hN.stay⟩)
theorem sSgn (n : Int) (h : SvR w wr wb lv l) (hl : l.length ≤ 1000000) (hn : -1000000000 ≤ n ∧ n ≤ 1000000000) :
    Calls Try.prog 51 #[.pointer (some ⟨wb, 0, none⟩), .int .i64 n] wr fun e w' => e = .returned (.tuple #[]) ∧ ∃ lv', SvR w w' wb lv' (l ++ sgnB n) ∧ Stay wr wb lv w' lv' :=
  (signed_any _ wb lv l n wr h.wr h.below.size hl hn).mono (by rintro e w' ⟨rfl, lv', hN⟩; exact ⟨rfl, lv', h.num hN, hN.stay⟩)
end

set_option maxRecDepth 100000 in
set_option maxHeartbeats 4000000 in
theorem wQueue_any {R : Nat → Prop} {base : Nat} (kb qb mb : Nat) (ov : Value) (ents : Int) (ks : List (List Ins)) (draws : List Int) (s : KS) (w wr : World) (wb : Nat) (lv : Value) (l : List Int) (h : KerP R base w kb qb mb ov ents ks draws s) (hok : KOk ents ks.length draws s) (hk8 : ks.length ≤ 8) (he8 : ents ≤ 8) (hsrt : Sorted s.q) (hS : SvR w wr wb lv l) (hl : l.length ≤ 1000) :
    Calls Try.prog 52 #[.pointer (some ⟨kb, 0, none⟩), .pointer (some ⟨wb, 0, none⟩)] wr fun e w' => e = .returned (.tuple #[]) ∧ ∃ lv', SvR w w' wb lv' (l ++ (numB s.q.length ++ evB s.clock s.q)) := by
  have H := hide h
  have HS := hide hS
  have hk := h.klt
  have k3 := below_at hS.below h.c3 hk
  have k4 := below_at hS.below h.c4 hk
  have hq16 := hok.len
  clear h hS
  go_enter Try.func52, Try.ntmps52
  go_wp2_with fail
  refine (qLen_any qb mb ov s.q _ (H.out.below HS.out.below).que).mono ?_
  rintro e w1 ⟨rfl, rfl⟩
  go_wp2_with fail
  refine (sNum (s.q.length : Int) HS.out (by omega) (by omega)).mono ?_
  rintro e w2 ⟨rfl, lv2, hS2, _⟩
  have HS2 := hide hS2
  have HS2c := hide hS2.wr.cell
  have HS2r := hide hS2.wr.row
  have j3 := below_at hS2.below H.out.c3 hk
  have j4 := below_at hS2.below H.out.c4 hk
  have hz2 := hS2.below.size
  clear hS2 k3 k4
  go_wp2_with fail
  refine (inOrder_any qb mb ov s.q _ (H.out.below HS2.out.below).que).mono ?_
  rintro e w3 ⟨iv, rfl, hb3, hrow3⟩
  obtain ⟨ia, ic, rfl⟩ := owns_formJ hrow3
  have HS3 := hide (HS2.out.bel hb3)
  have hz3 := hb3.size
  have Hrow3 := hide hrow3
  clear hb3 hrow3 HS2 j3 j4
  go_wp2_with fail
  have hll := numB_len (s.q.length : Int)
  have hev := hide hok.evs
  have hcl := hok.clock
  have hnx := hok.next
  obtain ⟨g, cap, hia, hgrow⟩ : ∃ g, ∃ cap : Nat, (s.q ≠ [] → ia = some ⟨g, 0, none⟩) ∧ (s.q ≠ [] → RowAt w3 g 0 (evRow s.q) ∧ Apart w3 wb lv2 g) := by
    rcases owns_row Hrow3.out with ⟨e1, e2, e3⟩ | ⟨g, cap, e1, e2, e3, e4⟩
    · exact ⟨0, 0, fun hc => absurd (List.eq_nil_of_length_eq_zero e2) hc, fun hc => absurd (List.eq_nil_of_length_eq_zero e2) hc⟩
    · simp only [Value.slice.injEq] at e1
      refine ⟨g, cap, fun _ => e1.1, fun _ => ⟨e4, e3, ?_, ?_⟩⟩
      · have := lt_of_cell HS2c.out; omega
      · intro hc; have := (HS2r.out.lt g hc).2; omega
  have Hgrow := hide hgrow
  clear hgrow
  go_loopg [4, 25] 18 (fun gf s4 s25 wr => ∃ (i : Nat) (lvi : Value), s25 = .int .i64 i ∧ s4 = .int .i64 (lastT s.clock (s.q.take i)) ∧ s.q.length - i + 1 ≤ gf ∧ i ≤ s.q.length ∧ Hid (SvR w wr wb lvi ((l ++ numB s.q.length) ++ evB s.clock (s.q.take i)) ∧ Stay w3 wb lv2 wr lvi))
  case atStart => exact ⟨0, lv2, rfl, by simp [lastT], by omega, by omega, by simpa [evB] using HS3.out, Stay.refl _ _ _⟩
  case round =>
    obtain ⟨i, lvi, rfl, rfl, hgf, hi, hI⟩ := hrel
    have hlb : (evB s.clock (s.q.take i)).length ≤ 640 := by
      have := evB_len s.clock (s.q.take i)
      have h2 : (s.q.take i).length ≤ 16 := by simp; omega
      omega
    by_cases hlt : i < s.q.length
    · have hne : s.q ≠ [] := by intro hc; rw [hc] at hlt; simp at hlt
      obtain rfl := hia hne
      obtain ⟨hra, hap⟩ := Hgrow.out hne
      obtain ⟨a0, a1, a2, a3⟩ := evRow_at hra i hlt
      have c0 := hI.out.2.at hap a0
      have c1 := hI.out.2.at hap a1
      have c2 := hI.out.2.at hap a2
      have c3 := hI.out.2.at hap a3
      have d1 : decide ((i : Int) < (s.q.length : Int)) = true := by simp; omega
      have hii : (i : Int) < (s.q.length : Int) := by omega
      have hw : IntKind.i64.wrap ((i : Int) + 1) = (i : Int) + 1 := by rw [IntKind.wrap_i64]; omega
      have hls := lastT_le hsrt (fun e he => (hev.out e he).1) i hlt
      have hee := hev.out s.q[i] (List.getElem_mem hlt)
      have HT : Hid (evB s.clock (s.q.take (i + 1)) = evB s.clock (s.q.take i) ++ (numB (s.q[i].time - lastT s.clock (s.q.take i)) ++ (numB s.q[i].number ++ (numB s.q[i].kind ++ numB s.q[i].entity)))) := by
        show _ = _
        rw [List.take_succ_eq_append_getElem hlt, evB_snoc]
      have HLn := hide (lastT_snoc s.clock s.q i hlt)
      generalize lastT s.clock (s.q.take i) = pt at hls HT ⊢
      generalize s.q[i] = e at a0 a1 a2 a3 c0 c1 c2 c3 hls hee HT HLn
      obtain ⟨et, en, ek, ee⟩ := e
      simp only at a0 a1 a2 a3 c0 c1 c2 c3 hls hee HT HLn
      have hws : IntKind.i64.wrap (et - pt) = et - pt := by rw [IntKind.wrap_i64]; omega
      have HI := hide hI.out.1
      have HSt := hide hI.out.2
      have hxl : wb < wr.heap.size := lt_of_cell hI.out.1.wr.cell
      have Hxr := hide hI.out.1.wr.row
      clear hra hap a0 a1 a2 a3
      generalize hbs : (l ++ numB s.q.length) ++ evB s.clock (s.q.take i) = bs at HI
      have hbl : bs.length ≤ 1800 := by rw [← hbs]; simp; omega
      have Hbs := hide hbs
      clear hbs
      have n1 := numB_len (et - pt)
      have n2 := numB_len en
      have n3 := numB_len ek
      go_wp2_with fail
      obtain ⟨W4, hW4⟩ : ∃ W4, W4 = wr.alloc (.cells #[.int .i64 en, .int .i64 et, .int .i64 ek, .int .i64 ee] 127) := ⟨_, rfl⟩
      have hb4 : Below wr.heap.size wr W4 := by rw [hW4]; exact (Below.refl _ _).alloc (Nat.le_refl _) _
      have hz4 : W4.heap.size = wr.heap.size + 1 := by rw [hW4]; simp
      have x0 : W4.cell? ⟨wr.heap.size, 0, none⟩ = some (.int .i64 en) := by rw [hW4]; simp [go_sem]
      have x1 : W4.cell? ⟨wr.heap.size, 1, none⟩ = some (.int .i64 et) := by rw [hW4]; simp [go_sem]
      have x2 : W4.cell? ⟨wr.heap.size, 2, none⟩ = some (.int .i64 ek) := by rw [hW4]; simp [go_sem]
      have x3 : W4.cell? ⟨wr.heap.size, 3, none⟩ = some (.int .i64 ee) := by rw [hW4]; simp [go_sem]
      have hapx : Apart W4 wb lvi wr.heap.size := ⟨by omega, by omega, fun hc => by have := (Hxr.out.lt _ hc).2; omega⟩
      have HS4 := hide (HI.out.bel hb4)
      have HSt4 := hide (HSt.out.bel hb4)
      rw [← hW4]
      clear hW4 hb4 c0 c1 c2 c3
      refine (sNum (et - pt) HS4.out (by omega) (by omega)).mono ?_
      rintro e w5 ⟨rfl, lv5, hS5, hst5⟩
      have y0 := hst5.at hapx x0
      have y1 := hst5.at hapx x1
      have y2 := hst5.at hapx x2
      have y3 := hst5.at hapx x3
      have hap5 := (hst5 _ hapx).1
      have HS5 := hide hS5
      have Hst5 := hide hst5
      clear x0 x1 x2 x3 hS5 hst5 hapx
      go_wp2_with fail
      refine (sNum en HS5.out (by simp; omega) (by omega)).mono ?_
      rintro e w6 ⟨rfl, lv6, hS6, hst6⟩
      have z1 := hst6.at hap5 y1
      have z2 := hst6.at hap5 y2
      have z3 := hst6.at hap5 y3
      have hap6 := (hst6 _ hap5).1
      have HS6 := hide hS6
      have Hst6 := hide hst6
      clear y0 y1 y2 y3 hS6 hst6 hap5
      go_wp2_with fail
      refine (sNum ek HS6.out (by simp; omega) (by omega)).mono ?_
      rintro e w7 ⟨rfl, lv7, hS7, hst7⟩
      have u1 := hst7.at hap6 z1
      have u3 := hst7.at hap6 z3
      have hap7 := (hst7 _ hap6).1
      have HS7 := hide hS7
      have Hst7 := hide hst7
      clear z1 z2 z3 hS7 hst7 hap6
      go_wp2_with fail
      refine (sNum ee HS7.out (by simp; omega) (by omega)).mono ?_
      rintro e w8 ⟨rfl, lv8, hS8, hst8⟩
      have v1 := hst8.at hap7 u1
      have HS8 := hide hS8
      have Hst8 := hide hst8
      clear u1 u3 hS8 hst8 hap7
      go_wp2_with fail
      go_roundg (s.q.length - (i + 1) + 1)
      case measure => omega
      case rel =>
        refine ⟨i + 1, lv8, by go_num, by rw [HLn.out], Nat.le_refl _, by omega, ?_, ((((HSt4.out.trans Hst5.out).trans Hst6.out).trans Hst7.out).trans Hst8.out)⟩
        have := HS8.out
        rw [← Hbs.out] at this
        rw [HT.out]
        simpa using this
    · have d1 : decide ((i : Int) < (s.q.length : Int)) = false := by simp; omega
      have hq : s.q.take i = s.q := List.take_of_length_le (by omega)
      have HI := hide hI.out.1
      clear hgf
      go_wp2_with fail
      go_end0
      have := HI.out
      rw [hq] at this
      exact ⟨rfl, lvi, by simpa using this⟩
end Go.Proofs.Ytndlmgocldckfaa
