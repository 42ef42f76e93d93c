import Derived.Test.YtndlmgocldckfaaQOrd
import Derived.Test.YtndlmgocldckfaaWrZ
import Derived.Test.YtndlmgocldckfaaKer
namespace Go.Proofs.Ytndlmgocldckfaa
open Go.RowKit
set_option linter.unusedVariables false
set_option linter.unusedSimpArgs false

/-! What Save writes. -/

def evB : Int → List Ev → List Int
  | _, [] => []
  | t, e :: q => numB (e.time - t) ++ (numB e.number ++ (numB e.kind ++ (numB e.entity ++ evB e.time q)))
def lastT (t : Int) (q : List Ev) : Int := (q.getLast?.map (·.time)).getD t
theorem evB_snoc : ∀ (t : Int) (q : List Ev) (e : Ev), evB t (q ++ [e]) = evB t q ++ (numB (e.time - lastT t q) ++ (numB e.number ++ (numB e.kind ++ numB e.entity)))
  | t, [], e => by simp [evB, lastT]
  | t, x :: q, e => by
    have := evB_snoc x.time q e
    rw [List.cons_append, evB, this, evB]
    have hl : lastT x.time q = lastT t (x :: q) := by
      unfold lastT
      cases q with
      | nil => simp
      | cons y q => rw [List.getLast?_cons_cons]; rcases h : (y :: q).getLast? with _ | z <;> simp_all
    rw [hl]
    simp
theorem lastT_snoc (t : Int) (q : List Ev) (i : Nat) (hi : i < q.length) : lastT t (q.take (i + 1)) = q[i].time := by
  unfold lastT
  rw [List.take_succ_eq_append_getElem hi, List.getLast?_append]
  simp
theorem lastT_le {t : Int} {q : List Ev} (hs : Sorted q) (h0 : ∀ e ∈ q, t ≤ e.time) (i : Nat) (hi : i < q.length) : t ≤ lastT t (q.take i) ∧ lastT t (q.take i) ≤ q[i].time := by
  rcases Nat.eq_zero_or_pos i with rfl | hp
  · simpa [lastT] using h0 q[0] (List.getElem_mem hi)
  · obtain ⟨k, rfl⟩ : ∃ k, i = k + 1 := ⟨i - 1, by omega⟩
    rw [lastT_snoc t q k (by omega)]
    have := List.pairwise_iff_getElem.1 hs k (k + 1) (by omega) hi (by omega)
    refine ⟨h0 _ (List.getElem_mem _), ?_⟩
    simp only [aheadF, Bool.or_eq_true, decide_eq_true_eq, Bool.and_eq_true] at this
    omega
theorem evRow_get : ∀ (q : List Ev) (i r : Nat), r < 4 → (evRow q)[i * 4 + r]? = q[i]?.bind fun e => (evCells e)[r]?
  | [], i, r, _ => by simp [evRow]
  | x :: l, 0, r, h => by
    have : r = 0 ∨ r = 1 ∨ r = 2 ∨ r = 3 := by omega
    rcases this with rfl | rfl | rfl | rfl <;> simp [evRow, evCells]
  | x :: l, i + 1, r, h => by
    have ih := evRow_get l i r h
    have e : (i + 1) * 4 + r = (i * 4 + r) + 1 + 1 + 1 + 1 := by omega
    rw [e]
    simpa [evRow, evCells] using ih
theorem evRow_at {w : World} {g : Nat} {q : List Ev} (h : RowAt w g 0 (evRow q)) (i : Nat) (hi : i < q.length) : w.cell? ⟨g, i * 4, none⟩ = some (.int .i64 q[i].number) ∧ w.cell? ⟨g, i * 4 + 1, none⟩ = some (.int .i64 q[i].time) ∧ w.cell? ⟨g, i * 4 + 2, none⟩ = some (.int .i64 q[i].kind) ∧ w.cell? ⟨g, i * 4 + 3, none⟩ = some (.int .i64 q[i].entity) := by
  have g4 := fun r (hr : r < 4) (v : Value) (hv : (evCells q[i])[r]? = some v) => h (i * 4 + r) v (by rw [evRow_get q i r hr, List.getElem?_eq_getElem hi]; exact hv)
  exact ⟨by simpa using g4 0 (by omega) _ rfl, by simpa using g4 1 (by omega) _ rfl, by simpa using g4 2 (by omega) _ rfl, by simpa using g4 3 (by omega) _ rfl⟩
def regB (s : KS) (n : Nat) : List Int := (List.range n).flatMap fun j => sgnB (s.regs j)
theorem regB_succ (s : KS) (n : Nat) : regB s (n + 1) = regB s n ++ sgnB (s.regs n) := by simp [regB, List.range_succ]
def bodyF (ents : Int) (nk : Nat) (s : KS) : List Int :=
  numB ents ++ (numB nk ++ (numB s.clock ++ (numB s.next ++ (numB s.taken ++ (regB s (ents.toNat * 4) ++ (numB s.q.length ++ evB s.clock s.q))))))

theorem evB_len : ∀ (t : Int) (q : List Ev), (evB t q).length ≤ q.length * 40
  | t, [] => by simp [evB]
  | t, e :: q => by
    have h1 := numB_len (e.time - t)
    have h2 := numB_len e.number
    have h3 := numB_len e.kind
    have h4 := numB_len e.entity
    have := evB_len e.time q
    simp [evB]; omega
theorem regB_len (s : KS) : ∀ n, (regB s n).length ≤ n * 10
  | 0 => by simp [regB]
  | n + 1 => by
    have := regB_len s n
    have h := numB_len (sgnI (s.regs n))
    rw [regB_succ, List.length_append]
    unfold sgnB
    omega

/-- As it is written: w the world when it began. -/
structure SvR (w wr : World) (wb : Nat) (lv : Value) (l : List Int) : Prop where
  below : Below w.heap.size w wr
  wr : WrP w.heap.size wr wb lv l
  wlt : w.heap.size ≤ wb

theorem SvR.num {w wr w2 : World} {wb : Nat} {lv lv2 : Value} {l l2 : List Int} (h : SvR w wr wb lv l) (k : NumR w.heap.size wr w2 wb lv lv2 l2) : SvR w w2 wb lv2 l2 := by
  refine ⟨h.below.trans (k.only.below h.below.size ?_), k.wr, h.wlt⟩
  rintro b hb (hc | hc)
  · have := h.wlt; omega
  · have := (h.wr.row.lt b hc).1; omega
theorem SvR.bel {w wr w2 : World} {wb : Nat} {lv : Value} {l : List Int} (h : SvR w wr wb lv l) (k : Below wr.heap.size wr w2) : SvR w w2 wb lv l := by
  have hz := h.below.size
  refine ⟨h.below.trans (k.mono hz), ⟨below_at k h.wr.cell (lt_of_cell h.wr.cell), h.wr.room.below k (lt_of_cell h.wr.cell), h.wr.row.keep (Only.new (S := fun _ => False) k) (by simp), h.wr.sep⟩, h.wlt⟩

/-- Blocks that a writer does not touch. -/
def Apart (wr : World) (wb : Nat) (lv : Value) (g : Nat) : Prop := g < wr.heap.size ∧ g ≠ wb ∧ some g ≠ lv.ownBlock
def Stay (wr : World) (wb : Nat) (lv : Value) (w' : World) (lv' : Value) : Prop := ∀ g, Apart wr wb lv g → Apart w' wb lv' g ∧ w'.heap[g]? = wr.heap[g]?
theorem Stay.refl (wr : World) (wb : Nat) (lv : Value) : Stay wr wb lv wr lv := fun g h => ⟨h, rfl⟩
theorem Stay.trans {a b c : World} {wb : Nat} {lv lv1 lv2 : Value} (h : Stay a wb lv b lv1) (k : Stay b wb lv1 c lv2) : Stay a wb lv c lv2 :=
  fun g hg => let ⟨h1, h2⟩ := h g hg; let ⟨k1, k2⟩ := k g h1; ⟨k1, k2.trans h2⟩
theorem Stay.at {a b : World} {wb : Nat} {lv lv1 : Value} (h : Stay a wb lv b lv1) {g o : Nat} {v : Value} (hg : Apart a wb lv g) (hc : a.cell? ⟨g, o, none⟩ = some v) : b.cell? ⟨g, o, none⟩ = some v :=
  (World.cell?_of_block (w := a) (a := ⟨g, o, none⟩) (h g hg).2).trans hc
theorem Stay.bel {a b c : World} {wb : Nat} {lv lv1 : Value} (h : Stay a wb lv b lv1) (k : Below b.heap.size b c) : Stay a wb lv c lv1 := by
  intro g hg
  obtain ⟨⟨h1, h2, h3⟩, h4⟩ := h g hg
  have := k.size
  exact ⟨⟨by omega, h2, h3⟩, (k.block g h1).trans h4⟩
theorem NumR.stay {base : Nat} {wr w' : World} {wb : Nat} {lv lv' : Value} {l : List Int} (h : NumR base wr w' wb lv lv' l) : Stay wr wb lv w' lv' := by
  rintro g ⟨h1, h2, h3⟩
  have hz := h.only.size
  refine ⟨⟨by omega, h2, ?_⟩, h.only.block g h1 (by rintro (hc | hc); exact h2 hc; exact h3 hc)⟩
  rcases h.moved with e | ⟨g', e, hg'⟩
  · rw [e]; exact h3
  · rw [e]; intro hc; simp at hc; omega

section
variable {w wr : World} {wb : Nat} {lv : Value} {l : List Int}
theorem sNum (n : Int) (h : SvR w wr wb lv l) (hl : l.length ≤ 1000000) (hn : 0 ≤ n ∧ n ≤ 9223372036854775807) :
    Calls Try.prog 50 #[.pointer (some ⟨wb, 0, none⟩), .int .i64 n] wr fun e w' => e = .returned (.tuple #[]) ∧ ∃ lv', SvR w w' wb lv' (l ++ numB n) ∧ Stay wr wb lv w' lv' :=
  (number_any _ wb lv l n wr h.wr h.below.size hl hn).mono (by rintro e w' ⟨rfl, lv', hN⟩; exact ⟨rfl, lv', h.num hN, hN.stay⟩)
theorem sSgn (n : Int) (h : SvR w wr wb lv l) (hl : l.length ≤ 1000000) (hn : -1000000000 ≤ n ∧ n ≤ 1000000000) :
    Calls Try.prog 51 #[.pointer (some ⟨wb, 0, none⟩), .int .i64 n] wr fun e w' => e = .returned (.tuple #[]) ∧ ∃ lv', SvR w w' wb lv' (l ++ sgnB n) ∧ Stay wr wb lv w' lv' :=
  (signed_any _ wb lv l n wr h.wr h.below.size hl hn).mono (by rintro e w' ⟨rfl, lv', hN⟩; exact ⟨rfl, lv', h.num hN, hN.stay⟩)
end

set_option maxRecDepth 100000 in
set_option maxHeartbeats 4000000 in
theorem wQueue_any {R : Nat → Prop} {base : Nat} (kb qb mb : Nat) (ov : Value) (ents : Int) (ks : List (List Ins)) (draws : List Int) (s : KS) (w wr : World) (wb : Nat) (lv : Value) (l : List Int) (h : KerP R base w kb qb mb ov ents ks draws s) (hok : KOk ents ks.length draws s) (hk8 : ks.length ≤ 8) (he8 : ents ≤ 8) (hsrt : Sorted s.q) (hS : SvR w wr wb lv l) (hl : l.length ≤ 1000) :
    Calls Try.prog 52 #[.pointer (some ⟨kb, 0, none⟩), .pointer (some ⟨wb, 0, none⟩)] wr fun e w' => e = .returned (.tuple #[]) ∧ ∃ lv', SvR w w' wb lv' (l ++ (numB s.q.length ++ evB s.clock s.q)) := by
  have H := hide h
  have HS := hide hS
  have hk := h.klt
  have k3 := below_at hS.below h.c3 hk
  have k4 := below_at hS.below h.c4 hk
  have hq16 := hok.len
  clear h hS
  go_enter Try.func52, Try.ntmps52
  go_wp2_with fail
  refine (qLen_any qb mb ov s.q _ (H.out.below HS.out.below).que).mono ?_
  rintro e w1 ⟨rfl, rfl⟩
  go_wp2_with fail
  refine (sNum (s.q.length : Int) HS.out (by omega) (by omega)).mono ?_
  rintro e w2 ⟨rfl, lv2, hS2, _⟩
  have HS2 := hide hS2
  have HS2c := hide hS2.wr.cell
  have HS2r := hide hS2.wr.row
  have j3 := below_at hS2.below H.out.c3 hk
  have j4 := below_at hS2.below H.out.c4 hk
  have hz2 := hS2.below.size
  clear hS2 k3 k4
  go_wp2_with fail
  refine (inOrder_any qb mb ov s.q _ (H.out.below HS2.out.below).que).mono ?_
  rintro e w3 ⟨iv, rfl, hb3, hrow3⟩
  obtain ⟨ia, ic, rfl⟩ := owns_formJ hrow3
  have HS3 := hide (HS2.out.bel hb3)
  have hz3 := hb3.size
  have Hrow3 := hide hrow3
  clear hb3 hrow3 HS2 j3 j4
  go_wp2_with fail
  have hll := numB_len (s.q.length : Int)
  have hev := hide hok.evs
  have hcl := hok.clock
  have hnx := hok.next
  obtain ⟨g, cap, hia, hgrow⟩ : ∃ g, ∃ cap : Nat, (s.q ≠ [] → ia = some ⟨g, 0, none⟩) ∧ (s.q ≠ [] → RowAt w3 g 0 (evRow s.q) ∧ Apart w3 wb lv2 g) := by
    rcases owns_row Hrow3.out with ⟨e1, e2, e3⟩ | ⟨g, cap, e1, e2, e3, e4⟩
    · exact ⟨0, 0, fun hc => absurd (List.eq_nil_of_length_eq_zero e2) hc, fun hc => absurd (List.eq_nil_of_length_eq_zero e2) hc⟩
    · simp only [Value.slice.injEq] at e1
      refine ⟨g, cap, fun _ => e1.1, fun _ => ⟨e4, e3, ?_, ?_⟩⟩
      · have := lt_of_cell HS2c.out; omega
      · intro hc; have := (HS2r.out.lt g hc).2; omega
  have Hgrow := hide hgrow
  clear hgrow
  go_loopg [4, 25] 18 (fun gf s4 s25 wr => ∃ (i : Nat) (lvi : Value), s25 = .int .i64 i ∧ s4 = .int .i64 (lastT s.clock (s.q.take i)) ∧ s.q.length - i + 1 ≤ gf ∧ i ≤ s.q.length ∧ Hid (SvR w wr wb lvi ((l ++ numB s.q.length) ++ evB s.clock (s.q.take i)) ∧ Stay w3 wb lv2 wr lvi))
  case atStart => exact ⟨0, lv2, rfl, by simp [lastT], by omega, by omega, by simpa [evB] using HS3.out, Stay.refl _ _ _⟩
  case round =>
    obtain ⟨i, lvi, rfl, rfl, hgf, hi, hI⟩ := hrel
    have hlb : (evB s.clock (s.q.take i)).length ≤ 640 := by
      have := evB_len s.clock (s.q.take i)
      have h2 : (s.q.take i).length ≤ 16 := by simp; omega
      omega
    by_cases hlt : i < s.q.length
    · have hne : s.q ≠ [] := by intro hc; rw [hc] at hlt; simp at hlt
      obtain rfl := hia hne
      obtain ⟨hra, hap⟩ := Hgrow.out hne
      obtain ⟨a0, a1, a2, a3⟩ := evRow_at hra i hlt
      have c0 := hI.out.2.at hap a0
      have c1 := hI.out.2.at hap a1
      have c2 := hI.out.2.at hap a2
      have c3 := hI.out.2.at hap a3
      have d1 : decide ((i : Int) < (s.q.length : Int)) = true := by simp; omega
      have hii : (i : Int) < (s.q.length : Int) := by omega
      have hw : IntKind.i64.wrap ((i : Int) + 1) = (i : Int) + 1 := by rw [IntKind.wrap_i64]; omega
      have hls := lastT_le hsrt (fun e he => (hev.out e he).1) i hlt
      have hee := hev.out s.q[i] (List.getElem_mem hlt)
      have HT : Hid (evB s.clock (s.q.take (i + 1)) = evB s.clock (s.q.take i) ++ (numB (s.q[i].time - lastT s.clock (s.q.take i)) ++ (numB s.q[i].number ++ (numB s.q[i].kind ++ numB s.q[i].entity)))) := by
        show _ = _
        rw [List.take_succ_eq_append_getElem hlt, evB_snoc]
      have HLn := hide (lastT_snoc s.clock s.q i hlt)
      generalize lastT s.clock (s.q.take i) = pt at hls HT ⊢
      generalize s.q[i] = e at a0 a1 a2 a3 c0 c1 c2 c3 hls hee HT HLn
      obtain ⟨et, en, ek, ee⟩ := e
      simp only at a0 a1 a2 a3 c0 c1 c2 c3 hls hee HT HLn
      have hws : IntKind.i64.wrap (et - pt) = et - pt := by rw [IntKind.wrap_i64]; omega
      have HI := hide hI.out.1
      have HSt := hide hI.out.2
      have hxl : wb < wr.heap.size := lt_of_cell hI.out.1.wr.cell
      have Hxr := hide hI.out.1.wr.row
      clear hra hap a0 a1 a2 a3
      generalize hbs : (l ++ numB s.q.length) ++ evB s.clock (s.q.take i) = bs at HI
      have hbl : bs.length ≤ 1800 := by rw [← hbs]; simp; omega
      have Hbs := hide hbs
      clear hbs
      have n1 := numB_len (et - pt)
      have n2 := numB_len en
      have n3 := numB_len ek
      go_wp2_with fail
      obtain ⟨W4, hW4⟩ : ∃ W4, W4 = wr.alloc (.cells #[.int .i64 en, .int .i64 et, .int .i64 ek, .int .i64 ee] 127) := ⟨_, rfl⟩
      have hb4 : Below wr.heap.size wr W4 := by rw [hW4]; exact (Below.refl _ _).alloc (Nat.le_refl _) _
      have hz4 : W4.heap.size = wr.heap.size + 1 := by rw [hW4]; simp
      have x0 : W4.cell? ⟨wr.heap.size, 0, none⟩ = some (.int .i64 en) := by rw [hW4]; simp [go_sem]
      have x1 : W4.cell? ⟨wr.heap.size, 1, none⟩ = some (.int .i64 et) := by rw [hW4]; simp [go_sem]
      have x2 : W4.cell? ⟨wr.heap.size, 2, none⟩ = some (.int .i64 ek) := by rw [hW4]; simp [go_sem]
      have x3 : W4.cell? ⟨wr.heap.size, 3, none⟩ = some (.int .i64 ee) := by rw [hW4]; simp [go_sem]
      have hapx : Apart W4 wb lvi wr.heap.size := ⟨by omega, by omega, fun hc => by have := (Hxr.out.lt _ hc).2; omega⟩
      have HS4 := hide (HI.out.bel hb4)
      have HSt4 := hide (HSt.out.bel hb4)
      rw [← hW4]
      clear hW4 hb4 c0 c1 c2 c3
      refine (sNum (et - pt) HS4.out (by omega) (by omega)).mono ?_
      rintro e w5 ⟨rfl, lv5, hS5, hst5⟩
      have y0 := hst5.at hapx x0
      have y1 := hst5.at hapx x1
      have y2 := hst5.at hapx x2
      have y3 := hst5.at hapx x3
      have hap5 := (hst5 _ hapx).1
      have HS5 := hide hS5
      have Hst5 := hide hst5
      clear x0 x1 x2 x3 hS5 hst5 hapx
      go_wp2_with fail
      refine (sNum en HS5.out (by simp; omega) (by omega)).mono ?_
      rintro e w6 ⟨rfl, lv6, hS6, hst6⟩
      have z1 := hst6.at hap5 y1
      have z2 := hst6.at hap5 y2
      have z3 := hst6.at hap5 y3
      have hap6 := (hst6 _ hap5).1
      have HS6 := hide hS6
      have Hst6 := hide hst6
      clear y0 y1 y2 y3 hS6 hst6 hap5
      go_wp2_with fail
      refine (sNum ek HS6.out (by simp; omega) (by omega)).mono ?_
      rintro e w7 ⟨rfl, lv7, hS7, hst7⟩
      have u1 := hst7.at hap6 z1
      have u3 := hst7.at hap6 z3
      have hap7 := (hst7 _ hap6).1
      have HS7 := hide hS7
      have Hst7 := hide hst7
      clear z1 z2 z3 hS7 hst7 hap6
      go_wp2_with fail
      refine (sNum ee HS7.out (by simp; omega) (by omega)).mono ?_
      rintro e w8 ⟨rfl, lv8, hS8, hst8⟩
      have v1 := hst8.at hap7 u1
      have HS8 := hide hS8
      have Hst8 := hide hst8
      clear u1 u3 hS8 hst8 hap7
      go_wp2_with fail
      go_roundg (s.q.length - (i + 1) + 1)
      case measure => omega
      case rel =>
        refine ⟨i + 1, lv8, by go_num, by rw [HLn.out], Nat.le_refl _, by omega, ?_, ((((HSt4.out.trans Hst5.out).trans Hst6.out).trans Hst7.out).trans Hst8.out)⟩
        have := HS8.out
        rw [← Hbs.out] at this
        rw [HT.out]
        simpa using this
    · have d1 : decide ((i : Int) < (s.q.length : Int)) = false := by simp; omega
      have hq : s.q.take i = s.q := List.take_of_length_le (by omega)
      have HI := hide hI.out.1
      clear hgf
      go_wp2_with fail
      go_end0
      have := HI.out
      rw [hq] at this
      exact ⟨rfl, lvi, by simpa using this⟩
end Go.Proofs.Ytndlmgocldckfaa

namespace Go.Proofs.Ytndlmgocldckfaa
open Go.RowKit
set_option linter.unusedVariables false
set_option linter.unusedSimpArgs false

theorem run_index4 (w : World) (a b c d : Int) (j : Int) (v : Int) (h : (j = 0 ∧ v = a) ∨ (j = 1 ∧ v = b) ∨ (j = 2 ∧ v = c) ∨ (j = 3 ∧ v = d)) :
    (Instr.index 54 (.agg #[.int .i64 a, .int .i64 b, .int .i64 c, .int .i64 d]) (.int .i64 j)).run Try.prog w = .ok (.int .i64 v) w := by
  obtain ⟨i, hi, hz, hsz, hby⟩ := info_parts Try.info3
  rcases h with ⟨rfl, rfl⟩ | ⟨rfl, rfl⟩ | ⟨rfl, rfl⟩ | ⟨rfl, rfl⟩ <;> simp [Instr.index, run_underlying Try.underlying54, run_underlying Try.underlying3, asIntOf, part, isAgg, sizeOf, typeInfo, hi, hsz, go_sem]

set_option maxRecDepth 100000 in
set_option maxHeartbeats 4000000 in
theorem write_any {R : Nat → Prop} {base : Nat} (kb qb mb : Nat) (ov : Value) (ents : Int) (ks : List (List Ins)) (draws : List Int) (s : KS) (w wr : World) (wb : Nat) (lv : Value) (l : List Int) (h : KerP R base w kb qb mb ov ents ks draws s) (hok : KOk ents ks.length draws s) (hk8 : ks.length ≤ 8) (he : 1 ≤ ents ∧ ents ≤ 8) (hd : draws.length ≤ 1000) (hsrt : Sorted s.q) (hS : SvR w wr wb lv l) (hl : l.length ≤ 100) :
    Calls Try.prog 31 #[.pointer (some ⟨kb, 0, none⟩), .pointer (some ⟨wb, 0, none⟩)] wr fun e w' => e = .returned (.tuple #[]) ∧ ∃ lv', SvR w w' wb lv' (l ++ bodyF ents ks.length s) := by
  have H := hide h
  have HS := hide hS
  have hk := h.klt
  obtain ⟨kv, hkv, hkin⟩ := h.kinds
  obtain ⟨ka, kc, rfl⟩ := hkin.form
  have k0 := below_at hS.below h.c0 hk
  have k1 := below_at hS.below hkv hk
  have k4 := below_at hS.below h.c4 hk
  have k5 := below_at hS.below h.c5 hk
  have k6 := below_at hS.below h.c6 hk
  have h0 := h.c0
  have h4 := h.c4
  have h5 := h.c5
  have h6 := h.c6
  have hcl := hok.clock
  have hnx := hok.next
  have htk := hok.taken
  obtain ⟨E, rfl⟩ := Int.eq_ofNat_of_zero_le (show 0 ≤ ents by omega)
  clear h hS hkin
  go_enter Try.func31, Try.ntmps31
  go_wp2_with fail
  refine (sNum (E : Int) HS.out (by omega) (by omega)).mono ?_
  rintro e w2 ⟨rfl, lv2, hS2, _⟩
  have HS2 := hide hS2
  have n1 := numB_len (E : Int)
  have j1 := below_at hS2.below hkv hk
  clear hS2 k0 k1 k4 k5 k6
  go_wp2_with fail
  refine (sNum (ks.length : Int) HS2.out (by simp; omega) (by omega)).mono ?_
  rintro e w3 ⟨rfl, lv3, hS3, _⟩
  have HS3 := hide hS3
  have n2 := numB_len (ks.length : Int)
  have j4 := below_at hS3.below h4 hk
  clear hS3 j1
  go_wp2_with fail
  refine (sNum s.clock HS3.out (by simp; omega) (by omega)).mono ?_
  rintro e w4 ⟨rfl, lv4, hS4, _⟩
  have HS4 := hide hS4
  have n3 := numB_len s.clock
  have j5 := below_at hS4.below h5 hk
  clear hS4 j4
  go_wp2_with fail
  refine (sNum s.next HS4.out (by simp; omega) (by omega)).mono ?_
  rintro e w5 ⟨rfl, lv5, hS5, _⟩
  have HS5 := hide hS5
  have n4 := numB_len s.next
  have j6 := below_at hS5.below h6 hk
  clear hS5 j5
  go_wp2_with fail
  refine (sNum (s.taken : Int) HS5.out (by simp; omega) (by omega)).mono ?_
  rintro e w6 ⟨rfl, lv6, hS6, _⟩
  have n5 := numB_len (s.taken : Int)
  have j0 := below_at hS6.below h0 hk
  obtain ⟨l6, hl6⟩ : ∃ l6, l6 = l ++ numB (E : Int) ++ numB (ks.length : Int) ++ numB s.clock ++ numB s.next ++ numB (s.taken : Int) := ⟨_, rfl⟩
  have HS6 : Hid (SvR w w6 wb lv6 l6) := by rw [hl6]; exact hS6
  have hl6n : l6.length ≤ 150 := by rw [hl6]; simp; omega
  have Hl6 := hide hl6
  clear hS6 j6 hl6 HS HS2 HS3 HS4 HS5
  go_wp2_with fail
  have hE8 : E ≤ 8 := by omega
  have Hreg := hide hok.regs
  go_loopg [48] 10 (fun gf s48 wr => ∃ (i : Nat) (lvi : Value), s48 = .int .i64 i ∧ E - i + 1 ≤ gf ∧ i ≤ E ∧ Hid (SvR w wr wb lvi (l6 ++ regB s (i * 4))))
  case atStart => exact ⟨0, lv6, rfl, by omega, by omega, show SvR _ _ _ _ _ by simpa [regB] using HS6.out⟩
  case round =>
    rename World => wo
    obtain ⟨i, lvi, rfl, hgf, hi, hI⟩ := hrel
    by_cases hlt : i < E
    · have d1 : decide ((i : Int) < (E : Int)) = true := by simp; omega
      have hw : IntKind.i64.wrap ((i : Int) + 1) = (i : Int) + 1 := by rw [IntKind.wrap_i64]; omega
      have hi8 : (i : Int) < 8 := by omega
      have r0 := below_at hI.out.below (H.out.regs (i * 4) (by omega)) hk
      have r1 := below_at hI.out.below (H.out.regs (i * 4 + 1) (by omega)) hk
      have r2 := below_at hI.out.below (H.out.regs (i * 4 + 2) (by omega)) hk
      have r3 := below_at hI.out.below (H.out.regs (i * 4 + 3) (by omega)) hk
      simp only [← Nat.add_assoc] at r0 r1 r2 r3
      have v0 := Hreg.out (i * 4)
      have v1 := Hreg.out (i * 4 + 1)
      have v2 := Hreg.out (i * 4 + 2)
      have v3 := Hreg.out (i * 4 + 3)
      have HR : Hid (regB s (i * 4 + 1) = regB s (i * 4) ++ sgnB (s.regs (i * 4)) ∧ regB s (i * 4 + 2) = regB s (i * 4 + 1) ++ sgnB (s.regs (i * 4 + 1)) ∧ regB s (i * 4 + 3) = regB s (i * 4 + 2) ++ sgnB (s.regs (i * 4 + 2)) ∧ regB s (i * 4 + 4) = regB s (i * 4 + 3) ++ sgnB (s.regs (i * 4 + 3))) := ⟨regB_succ _ _, regB_succ _ _, regB_succ _ _, regB_succ _ _⟩
      have hrl : ∀ j, j ≤ 4 → (l6 ++ regB s (i * 4 + j)).length ≤ 600 := by
        intro j hj
        have := regB_len s (i * 4 + j)
        simp; omega
      have Hrl := hide hrl
      clear hrl
      generalize s.regs (i * 4) = q0 at r0 v0 HR
      generalize s.regs (i * 4 + 1) = q1 at r1 v1 HR
      generalize s.regs (i * 4 + 2) = q2 at r2 v2 HR
      generalize s.regs (i * 4 + 3) = q3 at r3 v3 HR
      go_wp2_with fail
      go_loopg [58] 6 (fun gf s58 wr => ∃ (j : Nat) (lvj : Value), s58 = .int .i64 j ∧ 4 - j + 1 ≤ gf ∧ j ≤ 4 ∧ Hid (SvR w wr wb lvj (l6 ++ regB s (i * 4 + j))))
      case atStart => exact ⟨0, lvi, rfl, by omega, by omega, hI.out⟩
      case round =>
        obtain ⟨j, lvj, rfl, hgf2, hj, hJ⟩ := hrel
        have hc : j = 0 ∨ j = 1 ∨ j = 2 ∨ j = 3 ∨ j = 4 := by omega
        have Hbl := hide (Hrl.out j hj)
        clear r0 r1 r2 r3 d1
        rcases hc with rfl | rfl | rfl | rfl | rfl
        · have L := run_index4 wr q0 q1 q2 q3 0 q0 (by simp)
          go_wp2_with (go_at_call 51; refine (sSgn q0 hJ.out (by have := Hbl.out; omega) v0).mono ?_; rintro e w7 ⟨rfl, lv7, hS7, _⟩)
          go_roundg (4 - 1 + 1)
          case measure => omega
          case rel => exact ⟨1, lv7, rfl, by omega, by omega, by rw [HR.out.1, ← List.append_assoc]; exact hS7⟩
        · have L := run_index4 wr q0 q1 q2 q3 1 q1 (by simp)
          go_wp2_with (go_at_call 51; refine (sSgn q1 hJ.out (by have := Hbl.out; omega) v1).mono ?_; rintro e w7 ⟨rfl, lv7, hS7, _⟩)
          go_roundg (4 - 2 + 1)
          case measure => omega
          case rel => exact ⟨2, lv7, rfl, by omega, by omega, by rw [HR.out.2.1, ← List.append_assoc]; exact hS7⟩
        · have L := run_index4 wr q0 q1 q2 q3 2 q2 (by simp)
          go_wp2_with (go_at_call 51; refine (sSgn q2 hJ.out (by have := Hbl.out; omega) v2).mono ?_; rintro e w7 ⟨rfl, lv7, hS7, _⟩)
          go_roundg (4 - 3 + 1)
          case measure => omega
          case rel => exact ⟨3, lv7, rfl, by omega, by omega, by rw [HR.out.2.2.1, ← List.append_assoc]; exact hS7⟩
        · have L := run_index4 wr q0 q1 q2 q3 3 q3 (by simp)
          go_wp2_with (go_at_call 51; refine (sSgn q3 hJ.out (by have := Hbl.out; omega) v3).mono ?_; rintro e w7 ⟨rfl, lv7, hS7, _⟩)
          go_roundg (4 - 4 + 1)
          case measure => omega
          case rel => exact ⟨4, lv7, rfl, by omega, by omega, by rw [HR.out.2.2.2, ← List.append_assoc]; exact hS7⟩
        · go_wp2_with fail
          go_roundg (E - (i + 1) + 1)
          case measure => omega
          case rel => exact ⟨i + 1, lvj, by go_num, Nat.le_refl _, by omega, by rw [show (i + 1) * 4 = i * 4 + 4 by omega]; exact hJ.out⟩
    · have d1 : decide ((i : Int) < (E : Int)) = false := by simp; omega
      obtain rfl : i = E := by omega
      have HI := hide hI.out
      have hrl := regB_len s (i * 4)
      clear hgf
      go_wp2_with fail
      refine (wQueue_any kb qb mb ov (i : Int) ks draws s w wo wb lvi _ H.out hok hk8 (by omega) hsrt HI.out (by simp; omega)).mono ?_
      rintro e w8 ⟨rfl, lv8, hS8⟩
      have HS8 := hide hS8
      clear hS8
      go_wp2_with fail
      go_end0
      have := HS8.out
      rw [Hl6.out] at this
      refine ⟨rfl, lv8, ?_⟩
      simpa [bodyF] using this
end Go.Proofs.Ytndlmgocldckfaa

namespace Go.Proofs.Ytndlmgocldckfaa
open Go.RowKit
set_option linter.unusedVariables false
set_option linter.unusedSimpArgs false

theorem numB_bytes {n : Int} (h : 0 ≤ n ∧ n ≤ 9223372036854775807) : ∀ b ∈ numB n, 0 ≤ b ∧ b < 256 := numF_bytes 9 n h.1 (by simp; omega)
theorem sgnB_bytes {n : Int} (h : -1000000000 ≤ n ∧ n ≤ 1000000000) : ∀ b ∈ sgnB n, 0 ≤ b ∧ b < 256 := by
  unfold sgnB
  refine numB_bytes ?_
  unfold sgnI
  split <;> omega
theorem evB_bytes : ∀ (q : List Ev) (t : Int), Sorted q → 0 ≤ t → (∀ e ∈ q, t ≤ e.time ∧ e.time ≤ 1000000000000 ∧ 0 ≤ e.number ∧ e.number ≤ 1000000000 ∧ 0 ≤ e.kind ∧ e.kind ≤ 1000 ∧ 0 ≤ e.entity ∧ e.entity ≤ 1000) → ∀ b ∈ evB t q, 0 ≤ b ∧ b < 256
  | [], t, _, _, _, b, hb => by simp [evB] at hb
  | e :: q, t, hs, ht, h, b, hb => by
    have he := h e (List.mem_cons_self ..)
    simp only [evB, List.mem_append] at hb
    rcases hb with hb | hb | hb | hb | hb
    · exact numB_bytes (by omega) b hb
    · exact numB_bytes (by omega) b hb
    · exact numB_bytes (by omega) b hb
    · exact numB_bytes (by omega) b hb
    · refine evB_bytes q e.time (List.pairwise_cons.1 hs).2 (by omega) (fun x hx => ?_) b hb
      have h1 := h x (List.mem_cons_of_mem _ hx)
      have h2 := (List.pairwise_cons.1 hs).1 x hx
      simp only [aheadF, Bool.or_eq_true, decide_eq_true_eq, Bool.and_eq_true] at h2
      omega
theorem bodyF_bytes {ents : Int} {nk : Nat} {draws : List Int} {s : KS} (hok : KOk ents nk draws s) (he : 1 ≤ ents ∧ ents ≤ 8) (hk : nk ≤ 8) (hd : draws.length ≤ 1000) (hs : Sorted s.q) : ∀ b ∈ bodyF ents nk s, 0 ≤ b ∧ b < 256 := by
  obtain ⟨k1, k2, k3, k4, k5, k6⟩ := hok
  intro b hb
  simp only [bodyF, List.mem_append] at hb
  rcases hb with hb | hb | hb | hb | hb | hb | hb | hb
  · exact numB_bytes (by omega) b hb
  · exact numB_bytes (by omega) b hb
  · exact numB_bytes (by omega) b hb
  · exact numB_bytes (by omega) b hb
  · exact numB_bytes (by omega) b hb
  · obtain ⟨j, _, hj⟩ := List.mem_flatMap.1 hb
    exact sgnB_bytes (k4 j) b hj
  · exact numB_bytes (by omega) b hb
  · refine evB_bytes s.q s.clock hs k2.1 (fun e he' => ?_) b hb
    have := k5 e he'
    omega
theorem bodyF_len {ents : Int} {nk : Nat} {s : KS} (he : ents ≤ 8) (hq : s.q.length ≤ 16) : (bodyF ents nk s).length ≤ 1100 := by
  have h1 := numB_len ents
  have h2 := numB_len (nk : Int)
  have h3 := numB_len s.clock
  have h4 := numB_len s.next
  have h5 := numB_len (s.taken : Int)
  have h6 := regB_len s (ents.toNat * 4)
  have h7 := numB_len (s.q.length : Int)
  have h8 := evB_len s.clock s.q
  simp only [bodyF, List.length_append]
  omega

/-- What is ahead of the sum; and all that Save answers. -/
def headF (ents : Int) (nk : Nat) (s : KS) : List Int := [84, 77, 80, 1] ++ bodyF ents nk s
def saveF (ents : Int) (nk : Nat) (s : KS) : List Int := headF ents nk s ++ sumB (headF ents nk s)

set_option maxRecDepth 100000 in
set_option maxHeartbeats 4000000 in
theorem save_any {R : Nat → Prop} {base : Nat} (kb qb mb : Nat) (ov : Value) (ents : Int) (ks : List (List Ins)) (draws : List Int) (s : KS) (w : World) (h : KerP R base w kb qb mb ov ents ks draws s) (hok : KOk ents ks.length draws s) (hk8 : ks.length ≤ 8) (he : 1 ≤ ents ∧ ents ≤ 8) (hd : draws.length ≤ 1000) (hsrt : Sorted s.q) :
    Calls Try.prog 15 #[.pointer (some ⟨kb, 0, none⟩)] w fun e w' => ∃ v, e = .returned v ∧ Below w.heap.size w w' ∧ BRow w.heap.size w' v (saveF ents ks.length s) := by
  have H := hide h
  have hby := hide (bodyF_bytes hok he hk8 hd hsrt)
  have hbl := bodyF_len (ents := ents) (nk := ks.length) (s := s) he.2 hok.len
  clear h
  go_enter Try.func15, Try.ntmps15
  go_wp2_with fail
  refine (begin_any w _ ?_).mono ?_
  · decide
  rintro e w1 ⟨wb, lv1, rfl, hb1, hwl, hW1, hlv⟩
  have HS1 : Hid (SvR w w1 wb lv1 [84, 77, 80, 1]) := ⟨hb1, hW1, hwl⟩
  clear hb1 hW1 hwl hlv
  go_wp2_with fail
  refine (write_any kb qb mb ov ents ks draws s w w1 wb lv1 _ H.out hok hk8 he hd hsrt HS1.out (by simp)).mono ?_
  rintro e w2 ⟨rfl, lv2, hS2⟩
  have HS2 := hide hS2
  clear hS2
  go_wp2_with fail
  refine (end_any w.heap.size wb lv2 (headF ents ks.length s) w2 HS2.out.wr HS2.out.below.size (by simp [headF]; omega) ?_).mono ?_
  · intro c hc
    rcases List.mem_append.1 hc with hc | hc
    · simp at hc; omega
    · exact hby.out c hc
  rintro e w3 ⟨v, rfl, ho3, hrow3⟩
  obtain ⟨g, cap, rfl⟩ := hrow3.form
  have HB3 : Hid (Below w.heap.size w w3) := HS2.out.below.trans (ho3.below HS2.out.below.size (fun k hk hc => by have := (HS2.out.wr.row.lt k hc).1; omega))
  have Hrow3 := hide hrow3
  clear hrow3 ho3
  go_wp2_with fail
  go_ret
  exact ⟨_, rfl, HB3.out, by have := Hrow3.out; simp only [List.length_append] at this; exact this⟩
end Go.Proofs.Ytndlmgocldckfaa
