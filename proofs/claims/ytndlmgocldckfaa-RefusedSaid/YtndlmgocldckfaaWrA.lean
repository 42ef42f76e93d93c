import Derived.Test.YtndlmgocldckfaaMkA
import Derived.BigRegion
import Derived.BigQuiet
import Derived.Deep.QuietTactic
import Derived.Deep.LoopGhost
import Derived.RegionTactic
import Derived.Deep.RegionHeld3
namespace Go.Proofs.Ytndlmgocldckfaa
open Go.RowKit
set_option linter.unusedVariables false
set_option linter.unusedSimpArgs false

/-! Numbers as bytes. -/

def numF : Nat → Int → List Int
  | 0, n => [n]
  | k + 1, n => if 127 < n then (n % 128 + 128) :: numF k (n / 128) else [n]
def numB (n : Int) : List Int := numF 9 n
def sgnI (n : Int) : Int := if n < 0 then -2 * n - 1 else 2 * n
def sgnB (n : Int) : List Int := numB (sgnI n)

/-- A writer as it lies. -/
structure WrP (base : Nat) (w : World) (wb : Nat) (lv : Value) (l : List Int) : Prop where
  cell : w.cell? ⟨wb, 0, none⟩ = some lv
  room : Room w wb 1
  row : BRow base w lv l
  sep : ¬ some wb = lv.ownBlock

def WSet (wb : Nat) (lv : Value) (b : Nat) : Prop := b = wb ∨ some b = lv.ownBlock
def MovedV (w : World) (lv lv' : Value) : Prop := lv'.ownBlock = lv.ownBlock ∨ ∃ g, lv'.ownBlock = some g ∧ w.heap.size ≤ g

theorem owns_form1 {w : World} {base : Nat} {e : TypeId} {size : Nat} {v : Value} {n : Nat} {xs : List Value} (h : w.ownsRow base e size v n xs) : ∃ sa sc, v = .slice sa n sc := by
  rcases owns_row h with ⟨rfl, rfl, _⟩ | ⟨g, cap, rfl, _⟩
  · exact ⟨_, _, rfl⟩
  · exact ⟨_, _, rfl⟩
theorem only_of_grown {w w' : World} {row : Option Nat} (h : w.grownBy w' row) : Only (fun b => some b = row) w w' := ⟨h.os, h.tape, h.output, h.size, fun k hk hn => h.block k hk hn⟩

theorem Only.chain {S T : Nat → Prop} {a b c : World} (h : Only S a b) (k : Only T b c) (ht : ∀ i, i < a.heap.size → T i → S i) : Only S a c :=
  ⟨k.os.trans h.os, k.tape.trans h.tape, k.output.trans h.output, Nat.le_trans h.size k.size, fun i hi hs => (k.block i (Nat.lt_of_lt_of_le hi h.size) (fun x => hs (ht i hi x))).trans (h.block i hi hs)⟩
theorem owns_keep {w w' : World} {base : Nat} {e : TypeId} {size : Nat} {v : Value} {n : Nat} {xs : List Value} {U : Nat → Prop} (h : w.ownsRow base e size v n xs) (ho : Only U w w') (hU : ∀ b, some b = v.ownBlock → ¬ U b) : w'.ownsRow base e size v n xs := by
  obtain ⟨h1, h2⟩ := h
  refine ⟨h1, ?_⟩
  rcases h2 with h2 | ⟨g, cap, cur, rfl, hg, hc, r⟩
  · exact .inl h2
  · have hl := (Array.getElem?_eq_some_iff.1 hc).1
    exact .inr ⟨g, cap, cur, rfl, hg, (ho.block g hl (hU g rfl)).trans hc, r⟩

theorem numF_bytes : ∀ (k : Nat) (n : Int), 0 ≤ n → n < 128 ^ (k + 1) → ∀ b ∈ numF k n, 0 ≤ b ∧ b < 256
  | 0, n, h0, h1, b, hb => by simp [numF] at hb; subst hb; simp at h1; omega
  | k + 1, n, h0, h1, b, hb => by
    rw [numF] at hb
    split at hb
    · rcases List.mem_cons.1 hb with rfl | hb
      · omega
      · refine numF_bytes k (n / 128) (by omega) ?_ b hb
        rw [Int.pow_succ] at h1
        omega
    · simp at hb; subst hb; omega

theorem numF_len : ∀ (k : Nat) (n : Int), (numF k n).length ≤ k + 1
  | 0, n => by simp [numF]
  | k + 1, n => by
    rw [numF]
    split
    · have := numF_len k (n / 128)
      simp; omega
    · simp

structure NumR (base : Nat) (w wr : World) (wb : Nat) (lv0 lv : Value) (l : List Int) : Prop where
  only : Only (WSet wb lv0) w wr
  moved : MovedV w lv0 lv
  wr : WrP base wr wb lv l

theorem NumR.step {base : Nat} {w wr w2 : World} {wb : Nat} {lv0 lv lv2 : Value} {l : List Int} {x : Int} {o1 : Obj} (h : NumR base w wr wb lv0 lv l) (hb : base ≤ w.heap.size) (hg : (wr.alloc o1).grownBy w2 lv.ownBlock) (hown : BRow base w2 lv2 (l ++ [x]))
    (hwh : lv2.ownBlock = lv.ownBlock ∨ lv2.ownBlock = some (wr.heap.size + 1)) : NumR base w (w2.setCell ⟨wb, 0, none⟩ lv2) wb lv0 lv2 (l ++ [x]) := by
  have hz := h.only.size
  have hwl := lt_of_cell h.wr.cell
  have hbA : Below wr.heap.size wr (wr.alloc o1) := (Below.refl _ _).alloc (Nat.le_refl _) _
  have hO : Only (fun b => some b = lv.ownBlock) wr w2 := (Only.new hbA).trans (only_of_grown hg)
  have hOs : Only (· = wb) w2 (w2.setCell ⟨wb, 0, none⟩ lv2) := Only.setCell (S := (· = wb)) (Only.refl _ _) (p := ⟨wb, 0, none⟩) rfl _
  have hr2 : Room w2 wb 1 := h.wr.room.only hO h.wr.sep
  have hsep2 : ¬ some wb = lv2.ownBlock := by
    rcases hwh with e | e
    · rw [e]; exact h.wr.sep
    · rw [e]; intro hc; simp at hc; omega
  have hmv : MovedV w lv0 lv2 := by
    rcases hwh with e | e
    · rcases h.moved with e' | ⟨g, e', hg'⟩
      · exact .inl (e.trans e')
      · exact .inr ⟨g, e.trans e', hg'⟩
    · exact .inr ⟨_, e, by omega⟩
  refine ⟨?_, hmv, ⟨World.cell?_setCell_same' _ _ _ (hr2 0 (by omega)).1, hr2.setCell _ _, ?_, hsep2⟩⟩
  · refine (h.only.chain hO ?_).chain hOs (fun k _ hk => .inl hk)
    intro k hk hc
    rcases h.moved with e' | ⟨g, e', hg'⟩
    · exact .inr (hc.trans e')
    · rw [e'] at hc; simp at hc; omega
  · exact hown.keep hOs (fun b hb hc => hsep2 (by rw [← hc]; exact hb))

theorem byteOf (n : Int) (h0 : 0 ≤ n) (h1 : n < 256) : IntKind.u8.wrap n = n := by
  simp [IntKind.wrap, IntKind.bits, IntKind.signed]
  omega

theorem row_one (w : World) (v : Value) (T : TypeId) : RowAt (w.alloc (.cells #[v] T)) w.heap.size 0 [v] := by
  intro j u hu
  have hj : j < 1 := by have := (List.getElem?_eq_some_iff.1 hu).1; simpa using this
  obtain rfl : j = 0 := by omega
  simp at hu
  subst hu
  rw [World.cell?_alloc_at _ _ _ _ rfl]; rfl

set_option maxRecDepth 100000 in
set_option maxHeartbeats 4000000 in
theorem number_any (base wb : Nat) (lv : Value) (l : List Int) (n : Int) (w : World) (h : WrP base w wb lv l) (hb : base ≤ w.heap.size) (hl : l.length ≤ 1000000) (hn : 0 ≤ n ∧ n ≤ 9223372036854775807) :
    Calls Try.prog 50 #[.pointer (some ⟨wb, 0, none⟩), .int .i64 n] w fun e w' => e = .returned (.tuple #[]) ∧ ∃ lv', NumR base w w' wb lv lv' (l ++ numB n) := by
  have H := hide h
  clear h
  go_enter Try.func50, Try.ntmps50
  go_wp2_with fail
  go_loopg [1] 11 (fun g s1 wr => ∃ (f : Nat) (m : Int) (lv2 : Value) (ld : List Int), s1 = .int .i64 m ∧ f + 1 ≤ g ∧ f ≤ 9 ∧ 0 ≤ m ∧ m ≤ 9223372036854775807 ∧ ld.length + f = l.length + 9 ∧ Hid (m < 128 ^ (f + 1) ∧ NumR base w wr wb lv lv2 ld ∧ ld ++ numF f m = l ++ numB n))
  case atStart => exact ⟨9, n, lv, l, rfl, by omega, by omega, hn.1, hn.2, by omega, by simp; omega, ⟨Only.refl _ _, .inl rfl, H.out⟩, rfl⟩
  case round =>
    obtain ⟨f, m, lv2, ld, rfl, hg, hf, hm0, hm1, hdl, hI⟩ := hrel
    have hc := hI.out.2.1.wr.cell
    have hfz := (hI.out.2.1.wr.room 0 (by omega)).2
    have hzr := hI.out.2.1.only.size
    have hrow := hide hI.out.2.1.wr.row
    have hsep := hide hI.out.2.1.wr.sep
    by_cases h127 : 127 < m
    · obtain ⟨f', rfl⟩ : ∃ f', f = f' + 1 := by
        rcases f with _ | f'
        · have := hI.out.1; simp at this; omega
        · exact ⟨f', rfl⟩
      have d1 : decide (127 < m) = true := by simpa using h127
      have hr : m.tmod 128 = m % 128 := Int.tmod_eq_emod_of_nonneg (by omega)
      have hq : m.tdiv 128 = m / 128 := Int.tdiv_eq_ediv_of_nonneg (by omega)
      have w1 : IntKind.i64.wrap (m % 128) = m % 128 := by rw [IntKind.wrap_i64]; omega
      have w2 : IntKind.i64.wrap (m % 128 + 128) = m % 128 + 128 := by rw [IntKind.wrap_i64]; omega
      have w3 : IntKind.u8.wrap (m % 128 + 128) = m % 128 + 128 := byteOf _ (by omega) (by omega)
      have w4 : IntKind.i64.wrap (m / 128) = m / 128 := by rw [IntKind.wrap_i64]; omega
      go_wp2_with (at_builtin; refine wpList_append_b rfl (.tmp 10) (.tmp 15) 46 rfl base Try.underlying46 Try.infoU8 _ ld rfl (hrow.out.keep (Only.new (S := fun _ => False) ((Below.refl _ _).alloc (Nat.le_refl _) _)) (by simp)) _ 0 _ [m % 128 + 128] rfl ?_ (by simp; omega) (by simp; omega) ?_)
      · exact row_one _ _ _
      intro v5 w5 hown5 hgr5 hwh5
      have hS := hide (hI.out.2.1.step hb hgr5.out hown5.out hwh5.out)
      have hbA : Below wr.heap.size wr (wr.alloc (.cells #[.int .u8 (m % 128 + 128)] 5)) := (Below.refl _ _).alloc (Nat.le_refl _) _
      have hO : Only (fun b => some b = lv2.ownBlock) wr w5 := (Only.new hbA).trans (only_of_grown hgr5.out)
      have hc5 := hO.at hc hsep.out
      have hf5 := ((hI.out.2.1.wr.room.only hO hsep.out) 0 (by omega)).2
      obtain ⟨sa5, sc5, rfl⟩ := hown5.out.form
      have hS2 := hS.out
      simp only [List.length_append, List.length_cons, List.length_nil, Nat.zero_add] at hS2
      have HS2 := hide hS2
      clear hS2 hS
      clear hbA hO hc hfz
      go_wp2_with fail
      go_roundg (f' + 1)
      case measure => omega
      case rel =>
        refine ⟨f', m / 128, _, ld ++ [m % 128 + 128], rfl, by omega, by omega, by omega, by omega, by simp; omega, ?_, HS2.out, ?_⟩
        · have := hI.out.1
          rw [Int.pow_succ] at this
          omega
        · have := hI.out.2.2
          rw [numF, if_pos h127] at this
          rw [← this]; simp
    · have d1 : decide (127 < m) = false := by simpa using h127
      have w3 : IntKind.u8.wrap m = m := byteOf _ (by omega) (by omega)
      go_wp2_with (at_builtin; refine wpList_append_b rfl (.tmp 25) (.tmp 28) 46 rfl base Try.underlying46 Try.infoU8 _ ld rfl (hrow.out.keep (Only.new (S := fun _ => False) ((Below.refl _ _).alloc (Nat.le_refl _) _)) (by simp)) _ 0 _ [m] rfl ?_ (by simp; omega) (by simp; omega) ?_)
      · exact row_one _ _ _
      intro v5 w5 hown5 hgr5 hwh5
      have hS := hide (hI.out.2.1.step hb hgr5.out hown5.out hwh5.out)
      have hbA : Below wr.heap.size wr (wr.alloc (.cells #[.int .u8 m] 5)) := (Below.refl _ _).alloc (Nat.le_refl _) _
      have hO : Only (fun b => some b = lv2.ownBlock) wr w5 := (Only.new hbA).trans (only_of_grown hgr5.out)
      have hc5 := hO.at hc hsep.out
      have hf5 := ((hI.out.2.1.wr.room.only hO hsep.out) 0 (by omega)).2
      obtain ⟨sa5, sc5, rfl⟩ := hown5.out.form
      have hS2 := hS.out
      simp only [List.length_append, List.length_cons, List.length_nil, Nat.zero_add] at hS2
      have HS2 := hide hS2
      clear hS2 hS
      clear hbA hO hc hfz
      go_wp2_with fail
      go_end0
      have hfin : ld ++ [m] = l ++ numB n := by
        have := hI.out.2.2
        rcases f with _ | f'
        · exact this
        · rw [numF, if_neg (by omega)] at this; exact this
      exact ⟨rfl, _, by rw [← hfin]; exact HS2.out⟩

theorem NumR.trans {base : Nat} {w w1 w2 : World} {wb : Nat} {lv lv1 lv2 : Value} {l l2 : List Int} (h : NumR base w w1 wb lv lv1 l) (k : NumR base w1 w2 wb lv1 lv2 l2) : NumR base w w2 wb lv lv2 l2 := by
  have hz := h.only.size
  refine ⟨h.only.chain k.only ?_, ?_, k.wr⟩
  · rintro i hi (hc | hc)
    · exact .inl hc
    · rcases h.moved with e | ⟨g, e, hg⟩
      · exact .inr (hc.trans e)
      · rw [e] at hc; simp at hc; omega
  · rcases k.moved with e | ⟨g, e, hg⟩
    · rcases h.moved with e' | ⟨g', e', hg'⟩
      · exact .inl (e.trans e')
      · exact .inr ⟨g', e.trans e', hg'⟩
    · exact .inr ⟨g, e, by omega⟩

theorem numB_len (n : Int) : (numB n).length ≤ 10 := numF_len 9 n

set_option maxRecDepth 100000 in
set_option maxHeartbeats 4000000 in
theorem signed_any (base wb : Nat) (lv : Value) (l : List Int) (n : Int) (w : World) (h : WrP base w wb lv l) (hb : base ≤ w.heap.size) (hl : l.length ≤ 1000000) (hn : -1000000000 ≤ n ∧ n ≤ 1000000000) :
    Calls Try.prog 51 #[.pointer (some ⟨wb, 0, none⟩), .int .i64 n] w fun e w' => e = .returned (.tuple #[]) ∧ ∃ lv', NumR base w w' wb lv lv' (l ++ sgnB n) := by
  have H := hide h
  clear h
  by_cases h0 : n < 0
  · have d1 : decide (n < 0) = true := by simpa using h0
    have w1 : IntKind.i64.wrap (-2 * n) = -2 * n := by rw [IntKind.wrap_i64]; omega
    have w2 : IntKind.i64.wrap (-2 * n - 1) = -2 * n - 1 := by rw [IntKind.wrap_i64]; omega
    have hs : sgnB n = numB (-2 * n - 1) := by simp [sgnB, sgnI, h0]
    go_enter Try.func51, Try.ntmps51
    go_wp2_with fail
    refine (number_any base wb lv l _ w H.out hb hl (by omega)).mono ?_
    rintro e w1 ⟨rfl, lv', hN⟩
    go_wp2_with fail
    go_end0
    exact ⟨rfl, lv', hs ▸ hN⟩
  · have d1 : decide (n < 0) = false := by simpa using h0
    have w1 : IntKind.i64.wrap (2 * n) = 2 * n := by rw [IntKind.wrap_i64]; omega
    have hs : sgnB n = numB (2 * n) := by simp [sgnB, sgnI, h0]
    go_enter Try.func51, Try.ntmps51
    go_wp2_with fail
    refine (number_any base wb lv l _ w H.out hb hl (by omega)).mono ?_
    rintro e w1 ⟨rfl, lv', hN⟩
    go_wp2_with fail
    go_end0
    exact ⟨rfl, lv', hs ▸ hN⟩
end Go.Proofs.Ytndlmgocldckfaa
