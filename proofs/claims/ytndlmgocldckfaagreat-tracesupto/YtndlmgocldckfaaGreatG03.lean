import Derived.Test.YtndlmgocldckfaaGreatG02
import Derived.Test.YtndlmgocldckfaaGreatG01
import Derived.Laws.StructEq
import Derived.BigQuiet
import Derived.Deep.QuietTactic
import Derived.Deep.RegionWith
namespace Go.Proofs.YtndlmgocldckfaaGreat
open Go.RowKit
set_option linter.unusedVariables false
set_option linter.unusedSimpArgs false
set_option maxRecDepth 100000
set_option maxHeartbeats 4000000
def AllSet (av : Value) (L : List RecC) (b : Nat) : Prop := some b = av.ownBlock ∨ ∃ x ∈ L, some b = (Value.slice x.sa x.n x.sc).ownBlock
structure AllR (w : World) (Z : Nat) (av : Value) (L : List RecC) (rs : List Rec) : Prop where
 len : L.length = rs.length
 row : w.ownsRow Z 46 5 av L.length (recCells L)
 rec_ : ∀ (j : Nat) x r, L[j]? = some x → rs[j]? = some r → x.e = r.e ∧ x.n = r.told.length ∧ w.ownsRow Z 3 1 (.slice x.sa x.n x.sc) r.told.length (ints r.told)
 tsep : ∀ x ∈ L, ∀ b, some b = (Value.slice x.sa x.n x.sc).ownBlock → some b ≠ av.ownBlock
theorem AllR.lt {w : World} {Z : Nat} {av : Value} {L : List RecC} {rs : List Rec} (h : AllR w Z av L rs) : ∀ b, AllSet av L b → Z ≤ b ∧ b < w.heap.size := by
 rintro b (hb | ⟨x, hx, hb⟩)
 ·exact h.row.lt b hb.symm
 ·obtain ⟨j, hj⟩ := List.getElem?_of_mem hx
  have hl : j < rs.length := by have := (List.getElem?_eq_some_iff.1 hj).1; have := h.len; omega
  obtain ⟨_, _, h3⟩ := h.rec_ j x rs[j] hj (List.getElem?_eq_getElem hl)
  exact h3.lt b hb.symm
theorem AllR.only {w w' : World} {Z : Nat} {av : Value} {L : List RecC} {rs : List Rec} {U : Nat → Prop} (h : AllR w Z av L rs) (ho : Only U w w') (hU : ∀ b, AllSet av L b → ¬ U b) : AllR w' Z av L rs := by
 refine ⟨h.len, owns_keep h.row ho (fun b hb => hU b (.inl hb)), fun j x r hx hr => ?_, h.tsep⟩
 obtain ⟨h1, h2, h3⟩ := h.rec_ j x r hx hr
 exact ⟨h1, h2, owns_keep h3 ho (fun b hb => hU b (.inr ⟨x, List.mem_of_getElem? hx, hb⟩))⟩
theorem AllR.nil (w : World) (Z : Nat) : AllR w Z (.slice none 0 0) [] [] :=
 ⟨rfl, World.ownsRow_nil _ _ _ _, by simp, by simp⟩
theorem recCells_append (A B : List RecC) : recCells (A ++ B) = recCells A ++ recCells B := by simp [recCells]
theorem AllR.recIn {w : World} {Z : Nat} {av : Value} {L : List RecC} {rs : List Rec} (h : AllR w Z av L rs) : ∃ a cap, av = .slice a rs.length cap ∧ RecIn w a rs := by
 have hl := h.len
 rcases owns_row h.row with ⟨rfl, h0, _⟩ | ⟨g, cap, rfl, h1, h2, h3⟩
 ·have hr : rs = [] := List.eq_nil_of_length_eq_zero (by omega)
  subst hr
  exact ⟨none, 0, rfl, by intro i r hr; simp at hr⟩
 ·refine ⟨some ⟨g, 0, none⟩, cap, by rw [hl], ?_⟩
  intro i r hr
  have hi : i < L.length := by have := (List.getElem?_eq_some_iff.1 hr).1; omega
  have hx : L[i]? = some L[i] := List.getElem?_eq_getElem hi
  obtain ⟨e1, e2, e3⟩ := h.rec_ i _ r hx hr
  have hc : ∀ (j : Nat) v, j < 5 → (L[i].cells)[j]? = some v → w.cell? ⟨g, 0 + i * 5 + j, none⟩ = some v := by
   intro j v hj hv
   have := h3 (i * 5 + j) v (by rw [recCells_get L i j hj, hx]; exact hv)
   rw [Nat.add_assoc]; exact this
  refine ⟨g, 0, L[i].sa, L[i].sc, rfl, ?_, ?_, ?_, ?_, ?_, ?_⟩
  ·have := hc 0 _ (by omega) rfl; rw [← e1]; exact this
  ·have := hc 1 _ (by omega) rfl; rw [← e1]; exact this
  ·have := hc 2 _ (by omega) rfl; rw [← e1]; exact this
  ·have := hc 3 _ (by omega) rfl; rw [← e1]; exact this
  ·have := hc 4 _ (by omega) rfl; rw [← e2]; exact this
  ·intro k t ht
   rcases owns_row e3 with ⟨_, h0, _⟩ | ⟨g', cap', q1, _, _, q3⟩
   ·have := (List.getElem?_eq_some_iff.1 ht).1; omega
   ·simp only [Value.slice.injEq] at q1
    exact ⟨g', 0, q1.1, q3 k (.int .i64 t) (by simp [ints, ht])⟩
def ApartR (L : List RecC) : Prop := ∀ (j k : Nat) x y b, L[j]? = some x → L[k]? = some y → some b = (Value.slice x.sa x.n x.sc).ownBlock → some b = (Value.slice y.sa y.n y.sc).ownBlock → j = k
theorem AllR.snoc {w w' : World} {Z : Nat} {av av' : Value} {A : List RecC} {ra : List Rec} {x : RecC} {r : Rec} (h : AllR w Z av A ra) (he : x.e = r.e) (hn : x.n = r.told.length) (hx : w.ownsRow Z 3 1 (.slice x.sa x.n x.sc) r.told.length (ints r.told)) (hg : w.grownBy w' av.ownBlock) (hown : w'.ownsRow Z 46 5 av' (A.length + 1) (recCells A ++ x.cells)) (hwh : av'.ownBlock = av.ownBlock ∨ av'.ownBlock = some w.heap.size) (hdis : ∀ b, some b = (Value.slice x.sa x.n x.sc).ownBlock → some b ≠ av.ownBlock) : AllR w' Z av' (A ++ [x]) (ra ++ [r]) := by
 have ho : Only (fun b => some b = av.ownBlock) w w' := only_of_grown hg
 have hla := h.len
 refine ⟨by simp; omega, by rw [recCells_append, List.length_append]; simpa [recCells] using hown, fun j y q hy hq => ?_, ?_⟩
 ·by_cases hj : j < A.length
  ·rw [List.getElem?_append_left hj] at hy
   rw [List.getElem?_append_left (by omega)] at hq
   obtain ⟨h1, h2, h3⟩ := h.rec_ j y q hy hq
   exact ⟨h1, h2, owns_keep h3 ho (fun b hb hc => h.tsep y (List.mem_of_getElem? hy) b hb hc)⟩
  ·rw [List.getElem?_append_right (by omega)] at hy
   rw [List.getElem?_append_right (by omega)] at hq
   rw [← hla] at hq
   rcases hj0 : j - A.length with _ | m
   ·rw [hj0] at hy hq
    simp at hy hq
    subst hy hq
    exact ⟨he, hn, owns_keep hx ho (fun b hb hc => hdis b hb hc)⟩
   ·rw [hj0] at hy
    simp at hy
 ·intro y hy b hb
  rcases hwh with e | e
  ·rw [e]
   rcases List.mem_append.1 hy with hy | hy
   ·exact h.tsep y hy b hb
   ·simp at hy; subst hy; exact hdis b hb
  ·rw [e]
   intro hc
   simp at hc
   rcases List.mem_append.1 hy with hy | hy
   ·have := (h.lt b (.inr ⟨y, hy, hb⟩)).2; omega
   ·simp at hy; subst hy; have := (hx.lt b hb.symm).2; omega
theorem ApartR.snoc {w : World} {Z : Nat} {av : Value} {A : List RecC} {ra : List Rec} {x : RecC} (h : ApartR A) (hA : AllR w Z av A ra) (hx : ∀ b, some b = (Value.slice x.sa x.n x.sc).ownBlock → w.heap.size ≤ b) : ApartR (A ++ [x]) := by
 intro j k y z b hy hz hby hbz
 have hlt : ∀ (j : Nat) y, A[j]? = some y → some b = (Value.slice y.sa y.n y.sc).ownBlock → b < w.heap.size := fun j y hy hb => (hA.lt b (.inr ⟨y, List.mem_of_getElem? hy, hb⟩)).2
 have hlast : ∀ (j : Nat) y, ¬ j < A.length → (A ++ [x])[j]? = some y → j = A.length ∧ y = x := by
  intro j y hj hy
  rw [List.getElem?_append_right (by omega)] at hy
  rcases hj0 : j - A.length with _ | m
  ·rw [hj0] at hy; simp at hy; exact ⟨by omega, hy.symm⟩
  ·rw [hj0] at hy; simp at hy
 by_cases hj : j < A.length
 ·rw [List.getElem?_append_left hj] at hy
  by_cases hk : k < A.length
  ·rw [List.getElem?_append_left hk] at hz
   exact h j k y z b hy hz hby hbz
  ·obtain ⟨_, rfl⟩ := hlast k z hk hz
   have := hlt j y hy hby
   have := hx b hbz
   omega
 ·obtain ⟨e1, rfl⟩ := hlast j y hj hy
  by_cases hk : k < A.length
  ·rw [List.getElem?_append_left hk] at hz
   have := hlt k z hz hbz
   have := hx b hby
   omega
  ·obtain ⟨e2, _⟩ := hlast k z hk hz
   omega
theorem eqlNilI (w : World) (a : Option Addr) (n c : Nat) : (binOp .eql 24 (.slice a n c) (.slice none 0 0)).run Tryz.prog w = .ok (.bool a.isNone) w := Lib.run_eql_slice_nil w _ _ a n c 0 0 Tryz.underlying24
theorem eqlNilC (w : World) (a : Option Addr) (n c : Nat) : (binOp .eql 60 (.slice a n c) (.slice none 0 0)).run Tryz.prog w = .ok (.bool a.isNone) w := Lib.run_eql_slice_nil w _ _ a n c 0 0 Tryz.underlying60
theorem eqlNilK (w : World) (a : Option Addr) (n c : Nat) : (binOp .eql 36 (.slice a n c) (.slice none 0 0)).run Tryz.prog w = .ok (.bool a.isNone) w := Lib.run_eql_slice_nil w _ _ a n c 0 0 Tryz.underlying36
attribute [local go_sem] eqlNilI eqlNilC eqlNilK
theorem lentInts_nil (w : World) : Calls Tryz.prog 25 #[.slice none 0 0] w fun e w' => e = .returned (.slice none 0 0) ∧ w' = w := by
 go_enter Tryz.func25, Tryz.ntmps25
 go_wp2
 go_ret
 exact ⟨rfl, rfl⟩
def lentI (l : List Int) : List Value := ints l ++ List.replicate 8 (Value.int .i64 77)
theorem lentI_room (l : List Int) (k : Nat) (h1 : l.length ≤ k) (h2 : k < l.length + 8) : (lentI l)[k]? = some (.int .i64 77) := by
 rw [lentI, List.getElem?_append_right (by simpa [ints] using h1), List.getElem?_replicate, if_pos (by simp [ints]; omega)]
theorem lentI_elem (l : List Int) (k : Nat) (h : k < l.length) : (lentI l)[k]? = some (.int .i64 l[k]) := by
 rw [lentI, List.getElem?_append_left (by simpa [ints] using h)]; simp [ints, h]
theorem lentInts_at (ad : Addr) (cap : Nat) (l : List Int) (w : World) (hl : l.length ≤ 17592186044416) (hc : ∀ j v, (ints l)[j]? = some v → w.cell? (ad.add j) = some v) :
  Calls Tryz.prog 25 #[.slice (some ad) l.length cap] w fun e w' => ∃ g, w.heap.size ≤ g ∧ g < w'.heap.size ∧ e = .returned (.slice (some ⟨g, 0, none⟩) l.length (l.length + 8)) ∧
   Below w.heap.size w w' ∧ RowAt w' g 0 (lentI l) ∧ Room w' g (l.length + 8) := by
 go_enter Tryz.func25, Tryz.ntmps25
 go_wp2_with (first
  | (at_make; refine wpList_make_alloc _ rfl _ _ 24 rfl 3 (.int .i64 0) 1 8 Tryz.underlying24 Tryz.info3 _ _ _ _ (l.length + 8) rfl rfl (by simp) (by simp) (by omega) (by omega) ?_)
  | (refine wpList_copy_cells rfl (.tmp 13) (.tmp 14) 24 24 rfl 3 Tryz.underlying24 1 Tryz.size3 w.heap.size _ _ _ _ _ rfl rfl (by simp) _ 3 (heap_new _ _) (ints l) (by simp [ints]) ?_ ?_ ?_ ?_))
 case refine_1 => intro j v hv; exact (((Below.refl _ _).alloc (Nat.le_refl _) _).cell (lt_of_cellA (hc j v hv))).trans (hc j v hv)
 case refine_2 => simp [ints, size_madeCells]
 case refine_3 => intro v hv; simp [ints] at hv; obtain ⟨x, _, rfl⟩ := hv; rfl
 intro w1 hon hrow hroom hsz
 rw [size_madeCells] at hroom
 have hb1 : Below w.heap.size w w1 := ((Below.refl _ _).alloc (Nat.le_refl _) _).trans (hon.below (by simp) (fun k hk => by omega))
 have hlen : (lentI l).length = l.length + 8 := by simp [lentI, ints]
 have Hlen := hide hlen
 clear hlen hon
 have hz : w.heap.size < w1.heap.size := by rw [hsz]; simp
 clear hsz
 go_wp2
 go_loopw [5] (fun i wr => ∃ k : Nat, l.length ≤ k ∧ k ≤ l.length + 8 ∧ i = .int .i64 k ∧ Below w.heap.size w wr ∧ RowAt wr w.heap.size 0 ((lentI l).take k) ∧ Room wr w.heap.size (l.length + 8) ∧ w.heap.size < wr.heap.size) (fun i _ => l.length + 8 - (intOf i).toNat)
 case atStart => exact ⟨l.length, Nat.le_refl _, by omega, rfl, hb1, by rw [lentI, List.take_left' (by simp [ints])]; exact hrow, hroom, hz⟩
 case round =>
  obtain ⟨k, hk1, hk2, rfl, hbel, hrw, hrm, hzr⟩ := hrel
  clear hrow hroom hb1 hz
  by_cases hlt : k < l.length + 8
  ·obtain ⟨hs, hf⟩ := hrm k hlt
   obtain ⟨u, hu⟩ := Option.isSome_iff_exists.1 hs
   go_wp2
   go_roundw
   case rel =>
    refine ⟨k + 1, by omega, by omega, by go_num, hbel.setCell (by simp) _, ?_, hrm.setCell _ _, by simp [World.setCell]; omega⟩
    have := RowAt.snoc (X := lentI l) (b := w.heap.size) (off := 0) (w := wr) (n := k) (by rw [Hlen.out]; exact hlt) hrw (.int .i64 77) (lentI_room l k hk1 hlt) (by simpa using hs)
    simpa using this
   case measure => simp [intOf]; omega
  ·have hk : k = l.length + 8 := by omega
   rw [List.take_of_length_le (by rw [Hlen.out]; omega)] at hrw
   go_wp2
   go_ret
   exact ⟨w.heap.size, Nat.le_refl _, hzr, by simp, hbel, hrw, hrm⟩
theorem lentInts_some (b off cap : Nat) (l : List Int) (w : World) (hl : l.length ≤ 17592186044416) (hc : RowAt w b off (ints l)) :
  Calls Tryz.prog 25 #[.slice (some ⟨b, off, none⟩) l.length cap] w fun e w' => ∃ g, w.heap.size ≤ g ∧ g < w'.heap.size ∧ e = .returned (.slice (some ⟨g, 0, none⟩) l.length (l.length + 8)) ∧
   Below w.heap.size w w' ∧ RowAt w' g 0 (lentI l) ∧ Room w' g (l.length + 8) :=
 lentInts_at ⟨b, off, none⟩ cap l w hl (fun j v hv => by rw [Addr.add_lit]; exact hc j v hv)
theorem wholeInts_nil (v : Value) (w : World) : Calls Tryz.prog 28 #[v, .slice none 0 0] w fun e w' => e = .returned (.bool true) ∧ w' = w := by
 go_enter Tryz.func28, Tryz.ntmps28
 go_wp2
 go_ret
 exact ⟨rfl, rfl⟩
attribute [local go_sem] eqlNilI eqlNilC eqlNilK
def lentL (l : List Ins) : List Ins := l ++ List.replicate 8 ⟨77, 0, 0, 0⟩
theorem lentL_elem (l : List Ins) (k : Nat) (h : k < l.length) : (lentL l)[k]? = some l[k] := by
 rw [lentL, List.getElem?_append_left h]; simp [h]
theorem CodeFrom.below {B : Nat} {w w' : World} {b off k : Nat} {l : List Ins} (h : CodeFrom w b off k l) (hb : Below B w w') (hB : b < B) : CodeFrom w' b off k l := by
 intro i x hi hx
 obtain ⟨h1, h2, h3, h4⟩ := h i x hi hx
 exact ⟨below_at hb h1 hB, below_at hb h2 hB, below_at hb h3 hB, below_at hb h4 hB⟩
attribute [local go_sem] eqlNilI eqlNilC eqlNilK
def codeVal (r : Option Nat) (l : List Ins) : Value :=
 match r with
 | none => .slice none 0 0
 | some c => .slice (some ⟨c, 0, none⟩) l.length (l.length + 8)
structure LentTo (lo hi : Nat) (w : World) (g h b off k : Nat) (rs : List (Option Nat)) (ks : List (List Ins)) : Prop where
 len : rs.length = k
 le : k ≤ ks.length
 row : ∀ (i : Nat) (r : Option Nat) (l : List Ins), rs[i]? = some r → ks[i]? = some l → w.cell? ⟨g, i, none⟩ = some (codeVal r l) ∧ w.cell? ⟨h, i, none⟩ = some (codeVal r l)
 spare : ∀ i, k ≤ i → i < ks.length + 8 → w.cell? ⟨g, i, none⟩ = some (.slice none 0 0)
 room : Room w g (ks.length + 8)
 roomh : Room w h ks.length
 code : ∀ (i c : Nat) (l : List Ins), rs[i]? = some (some c) → ks[i]? = some l → CodeAt w c 0 (lentL l) ∧ Room w c ((l.length + 8) * 4) ∧ hi ≤ c ∧ c < w.heap.size ∧ c ≠ g ∧ c ≠ h
 none_ : ∀ (i : Nat) (l : List Ins), rs[i]? = some none → ks[i]? = some l → l = []
 apart : ∀ (i j c : Nat), rs[i]? = some (some c) → rs[j]? = some (some c) → i = j
 orig : ∀ (i : Nat) (l : List Ins), ks[i]? = some l → ∃ v, w.cell? ⟨b, off + i, none⟩ = some v ∧ CodeV lo w v l ∧ (i < k → (rs[i]? = some none ↔ v = .slice none 0 0))
 lohi : lo ≤ hi
 glo : hi ≤ g
 hlo : hi ≤ h
 ghi : g < w.heap.size
 hhi : h < w.heap.size
 gh : g ≠ h
 blo : b < lo
theorem LentTo.below {lo hi : Nat} {w w' : World} {g h b off k : Nat} {rs : List (Option Nat)} {ks : List (List Ins)} (x : LentTo lo hi w g h b off k rs ks) (hb : Below w.heap.size w w') : LentTo lo hi w' g h b off k rs ks := by
 have hlt : lo ≤ w.heap.size := Nat.le_trans x.lohi (Nat.le_trans x.glo (Nat.le_of_lt x.ghi))
 have hsz := hb.size
 refine ⟨x.len, x.le, ?_, ?_, x.room.below hb x.ghi, x.roomh.below hb x.hhi, ?_, x.none_, x.apart, ?_, x.lohi, x.glo, x.hlo, by have := x.ghi; omega, by have := x.hhi; omega, x.gh, x.blo⟩
 ·intro i r l hr hl
  obtain ⟨h1, h2⟩ := x.row i r l hr hl
  exact ⟨below_at hb h1 x.ghi, below_at hb h2 x.hhi⟩
 ·intro i h1 h2
  exact below_at hb (x.spare i h1 h2) x.ghi
 ·intro i c l hr hl
  obtain ⟨h1, h2, h3, h4, h5, h6⟩ := x.code i c l hr hl
  exact ⟨h1.below hb h4, h2.below hb h4, h3, by omega, h5, h6⟩
 ·intro i l hl
  obtain ⟨v, h1, h2, h3⟩ := x.orig i l hl
  exact ⟨v, below_at hb h1 (by have := x.blo; omega), h2.below (hb.mono hlt), h3⟩
theorem LentTo.step {lo hi : Nat} {w : World} {g h b off k : Nat} {rs : List (Option Nat)} {ks : List (List Ins)} (x : LentTo lo hi w g h b off k rs ks) (hk : k < ks.length) (r : Option Nat)
  (hr : (r = none ∧ ks[k] = [] ∧ w.cell? ⟨b, off + k, none⟩ = some (.slice none 0 0)) ∨ ∃ c, r = some c ∧ CodeAt w c 0 (lentL ks[k]) ∧ Room w c ((ks[k].length + 8) * 4) ∧ hi ≤ c ∧ c < w.heap.size ∧ c ≠ g ∧ c ≠ h ∧ (∀ i : Nat, rs[i]? ≠ some (some c)) ∧ w.cell? ⟨b, off + k, none⟩ ≠ some (.slice none 0 0)) :
  LentTo lo hi ((w.setCell ⟨g, k, none⟩ (codeVal r ks[k])).setCell ⟨h, k, none⟩ (codeVal r ks[k])) g h b off (k + 1) (rs ++ [r]) ks := by
 have hgh := x.gh
 have hlohi := x.lohi
 have hblo := x.blo
 have hglo := x.glo
 have hhlo := x.hlo
 have hsz : ((w.setCell ⟨g, k, none⟩ (codeVal r ks[k])).setCell ⟨h, k, none⟩ (codeVal r ks[k])).heap.size = w.heap.size := by simp [World.setCell]
 have look : ∀ (i : Nat) s, (rs ++ [r])[i]? = some s → (i < k ∧ rs[i]? = some s) ∨ (i = k ∧ s = r) := by
  intro i s hs
  by_cases hi : i < k
  ·rw [List.getElem?_append_left (by rw [x.len]; exact hi)] at hs; exact .inl ⟨hi, hs⟩
  ·rw [List.getElem?_append_right (by rw [x.len]; omega), x.len] at hs
   have : i - k = 0 := by
    have := (List.getElem?_eq_some_iff.1 hs).1
    simp at this; omega
   rw [this] at hs
   simp at hs
   exact .inr ⟨by omega, hs.symm⟩
 have other : ∀ (b' o' : Nat) , (b' ≠ g ∨ o' ≠ k) → (b' ≠ h ∨ o' ≠ k) → ((w.setCell ⟨g, k, none⟩ (codeVal r ks[k])).setCell ⟨h, k, none⟩ (codeVal r ks[k])).cell? ⟨b', o', none⟩ = w.cell? ⟨b', o', none⟩ := by
  intro b' o' h1 h2
  rw [World.cell?_setCell_other _ _ _ _ (by simp; omega), World.cell?_setCell_other _ _ _ _ (by simp; omega)]
 refine ⟨by simp [x.len], by omega, ?_, ?_, (x.room.setCell _ _).setCell _ _, (x.roomh.setCell _ _).setCell _ _, ?_, ?_, ?_, ?_, x.lohi, x.glo, x.hlo, by rw [hsz]; exact x.ghi, by rw [hsz]; exact x.hhi, x.gh, x.blo⟩
 ·intro i s l hs hl
  rcases look i s hs with ⟨hi, hs'⟩ | ⟨rfl, rfl⟩
  ·obtain ⟨h1, h2⟩ := x.row i s l hs' hl
   exact ⟨(other g i (by omega) (by omega)).trans h1, (other h i (by omega) (by omega)).trans h2⟩
  ·have : l = ks[i] := by rw [List.getElem?_eq_getElem hk] at hl; exact (Option.some.inj hl).symm
   subst this
   refine ⟨?_, ?_⟩
   ·rw [World.cell?_setCell_other _ _ _ _ (by simp; try omega)]
    exact World.cell?_setCell_same' _ _ _ (x.room i (by omega)).1
   ·exact World.cell?_setCell_same' _ _ _ ((x.roomh.setCell _ _) i hk).1
 ·intro i h1 h2
  exact (other g i (by omega) (by omega)).trans (x.spare i (by omega) h2)
 ·intro i c l hs hl
  rw [hsz]
  rcases look i _ hs with ⟨hi, hs'⟩ | ⟨rfl, hs'⟩
  ·obtain ⟨h1, h2, h3, h4, h5, h6⟩ := x.code i c l hs' hl
   exact ⟨(h1.setCell _ _ (Ne.symm h5)).setCell _ _ (Ne.symm h6), (h2.setCell _ _).setCell _ _, h3, h4, h5, h6⟩
  ·have : l = ks[i] := by rw [List.getElem?_eq_getElem hk] at hl; exact (Option.some.inj hl).symm
   subst this
   rcases hr with ⟨rfl, _, _⟩ | ⟨c', rfl, h1, h2, h3, h4, h5, h6, h7, h8⟩
   ·simp at hs'
   ·simp at hs'
    subst hs'
    exact ⟨(h1.setCell _ _ (Ne.symm h5)).setCell _ _ (Ne.symm h6), (h2.setCell _ _).setCell _ _, h3, h4, h5, h6⟩
 ·intro i l hs hl
  rcases look i _ hs with ⟨hi, hs'⟩ | ⟨rfl, hs'⟩
  ·exact x.none_ i l hs' hl
  ·have : l = ks[i] := by rw [List.getElem?_eq_getElem hk] at hl; exact (Option.some.inj hl).symm
   subst this
   rcases hr with ⟨rfl, h0, _⟩ | ⟨c', rfl, _⟩
   ·exact h0
   ·simp at hs'
 ·intro i j c hi hj
  rcases look i _ hi with ⟨hi1, hi'⟩ | ⟨hi1, hi'⟩ <;> rcases look j _ hj with ⟨hj1, hj'⟩ | ⟨hj1, hj'⟩
  ·exact x.apart i j c hi' hj'
  ·rcases hr with ⟨rfl, _, _⟩ | ⟨c', rfl, h1, h2, h3, h4, h5, h6, h7, h8⟩
   ·simp at hj'
   ·simp at hj'; subst hj'; exact absurd hi' (h7 i)
  ·rcases hr with ⟨rfl, _, _⟩ | ⟨c', rfl, h1, h2, h3, h4, h5, h6, h7, h8⟩
   ·simp at hi'
   ·simp at hi'; subst hi'; exact absurd hj' (h7 j)
  ·omega
 ·intro i l hl
  obtain ⟨v, h1, h2, h3⟩ := x.orig i l hl
  refine ⟨v, (other b (off + i) (by omega) (by omega)).trans h1, (h2.setCell _ _ (by simp; omega)).setCell _ _ (by simp; omega), fun hi => ?_⟩
  by_cases hik : i < k
  ·rw [List.getElem?_append_left (by rw [x.len]; exact hik)]; exact h3 hik
  ·have : i = k := by omega
   subst this
   rw [List.getElem?_append_right (by rw [x.len]; omega), x.len]
   simp
   rcases hr with ⟨rfl, _, h9⟩ | ⟨c', rfl, _, _, _, _, _, _, _, h9⟩
   ·rw [h9] at h1; simp at h1; simp [h1]
   ·simp
    intro e; subst e; exact h9 h1
theorem LentTo.only {S : Nat → Prop} {lo hi : Nat} {w w' : World} {g h b off k : Nat} {rs : List (Option Nat)} {ks : List (List Ins)} (x : LentTo lo hi w g h b off k rs ks) (ho : Only S w w') (hS : ∀ k, S k → lo ≤ k ∧ k < hi) : LentTo lo hi w' g h b off k rs ks := by
 have hlt : lo ≤ w.heap.size := Nat.le_trans x.lohi (Nat.le_trans x.glo (Nat.le_of_lt x.ghi))
 have hsz := ho.size
 have nhi : ∀ c, hi ≤ c → ¬ S c := fun c hc hs => by have := hS c hs; omega
 have nlo : ∀ c, c < lo → ¬ S c := fun c hc hs => by have := hS c hs; omega
 refine ⟨x.len, x.le, ?_, ?_, x.room.only ho (nhi _ x.glo), x.roomh.only ho (nhi _ x.hlo), ?_, x.none_, x.apart, ?_, x.lohi, x.glo, x.hlo, by have := x.ghi; omega, by have := x.hhi; omega, x.gh, x.blo⟩
 ·intro i r l hr hl
  obtain ⟨h1, h2⟩ := x.row i r l hr hl
  exact ⟨ho.at h1 (nhi _ x.glo), ho.at h2 (nhi _ x.hlo)⟩
 ·intro i h1 h2
  exact ho.at (x.spare i h1 h2) (nhi _ x.glo)
 ·intro i c l hr hl
  obtain ⟨h1, h2, h3, h4, h5, h6⟩ := x.code i c l hr hl
  exact ⟨h1.only ho (nhi _ h3), h2.only ho (nhi _ h3), h3, by omega, h5, h6⟩
 ·intro i l hl
  obtain ⟨v, h1, h2, h3⟩ := x.orig i l hl
  exact ⟨v, ho.at h1 (nlo _ x.blo), h2.below (ho.below hlt nlo), h3⟩
attribute [local go_sem] eqlNilI eqlNilC eqlNilK
attribute [local go_sem] eqlNilI eqlNilC eqlNilK
structure WholeTo (w : World) (g n k : Nat) (rs : List (Option Nat)) (wr : World) : Prop where
 only : Only (fun x => x = g ∨ ∃ i : Nat, rs[i]? = some (some x)) w wr
 cells : ∀ j, k ≤ j → j < n + 8 → wr.cell? ⟨g, j, none⟩ = w.cell? ⟨g, j, none⟩
 room : Room wr g (n + 8)
 codes : ∀ i c : Nat, k ≤ i → rs[i]? = some (some c) → wr.heap[c]? = w.heap[c]?
theorem WholeTo.below {w wr w2 : World} {g n k : Nat} {rs : List (Option Nat)} (x : WholeTo w g n k rs wr) (hg : g < w.heap.size) (hc : ∀ i c : Nat, rs[i]? = some (some c) → c < w.heap.size) (hb : Below wr.heap.size wr w2) : WholeTo w g n k rs w2 := by
 have hs := x.only.size
 refine ⟨x.only.trans (Only.new hb), ?_, x.room.below hb (by omega), ?_⟩
 ·intro j h1 h2
  rw [← x.cells j h1 h2]; exact hb.cell (p := ⟨g, j, none⟩) (by show g < _; omega)
 ·intro i c h1 h2
  rw [← x.codes i c h1 h2]; exact hb.block c (by have := hc i c h2; omega)
theorem WholeTo.step {w wr w3 : World} {g n k : Nat} {rs : List (Option Nat)} (x : WholeTo w g n k rs wr) (hg : g < w.heap.size) (hc : ∀ i c : Nat, rs[i]? = some (some c) → c < w.heap.size ∧ c ≠ g)
  (ha : ∀ i j c : Nat, rs[i]? = some (some c) → rs[j]? = some (some c) → i = j) (ho : Only (fun y => rs[k]? = some (some y)) wr w3) (v : Value) : WholeTo w g n (k + 1) rs (w3.setCell ⟨g, k, none⟩ v) := by
 have hs := x.only.size
 have hgk : ¬ rs[k]? = some (some g) := fun h => (hc k g h).2 rfl
 have hcell : ∀ j v', wr.cell? ⟨g, j, none⟩ = some v' → w3.cell? ⟨g, j, none⟩ = some v' := fun j v' h => ho.at h hgk
 refine ⟨(x.only.trans (ho.mono fun y _ hy => .inr ⟨k, hy⟩)).setCell (.inl rfl) _, ?_, (x.room.only ho hgk).setCell _ _, ?_⟩
 ·intro j h1 h2
  rw [World.cell?_setCell_other _ _ _ _ (by simp; try omega)]
  obtain ⟨u, hu⟩ := Option.isSome_iff_exists.1 (x.room j h2).1
  rw [hcell j u hu, ← x.cells j (by omega) h2, hu]
 ·intro i c h1 h2
  rw [Below.heap_setCell _ _ _ _ (by exact (hc i c h2).2), ← x.codes i c (by omega) h2]
  refine ho.block c (by have := (hc i c h2).1; omega) fun h => ?_
  have := ha i k c h2 h
  omega
theorem lentL_code {w : World} {c : Nat} {l : List Ins} (h : CodeAt w c 0 (lentL l)) : CodeAt w c 0 l := by
 intro i x hx
 have hi : i < l.length := (List.getElem?_eq_some_iff.1 hx).1
 refine h i x ?_
 rw [lentL_elem l i hi]
 rw [List.getElem?_eq_getElem hi] at hx
 exact hx
theorem LentTo.kinds {lo hi : Nat} {w : World} {g h b off : Nat} {rs : List (Option Nat)} {ks : List (List Ins)} (x : LentTo lo hi w g h b off ks.length rs ks) : KindsAt w.heap.size w g 0 ks := by
 intro i l hl
 have hi : i < ks.length := (List.getElem?_eq_some_iff.1 hl).1
 have hr : rs[i]? = some (rs[i]'(by rw [x.len]; exact hi)) := by simp [x.len, hi]
 generalize rs[i]'(by rw [x.len]; exact hi) = r at hr
 obtain ⟨h1, _⟩ := x.row i r l hr hl
 obtain ⟨v, _, hv, _⟩ := x.orig i l hl
 refine ⟨_, by rw [Nat.zero_add]; exact h1, hv.1, ?_⟩
 cases r with
 | none => exact .inl ⟨rfl, x.none_ i l hr hl⟩
 | some c =>
  obtain ⟨c1, c2, c3, c4, c5, c6⟩ := x.code i c l hr hl
  exact .inr (.inl ⟨c, 0, l.length + 8, rfl, c4, lentL_code c1⟩)
theorem lentI_row {w : World} {g : Nat} {l : List Int} (h : RowAt w g 0 (lentI l)) : RowAt w g 0 (ints l) := by
 intro j v hv
 refine h j v ?_
 have hj : j < (ints l).length := (List.getElem?_eq_some_iff.1 hv).1
 rw [lentI, List.getElem?_append_left hj]; exact hv
def LentV (lo : Nat) (w : World) (v : Value) (sa : Option Addr) (sc : Nat) (l : List Int) : Prop :=
 (v = .slice none 0 0 ∧ sa = none ∧ sc = 0 ∧ l = []) ∨ ∃ g, sa = some ⟨g, 0, none⟩ ∧ sc = l.length + 8 ∧ v ≠ .slice none 0 0 ∧ lo ≤ g ∧ g < w.heap.size ∧ RowAt w g 0 (lentI l) ∧ Room w g (l.length + 8)
def IntsX (B : Nat) (w : World) (v : Value) (l : List Int) : Prop := IntsIn (· < B) w v l ∨ ∃ a cap, v = .slice (some a) 0 cap ∧ l = []
theorem IntsX.form {B : Nat} {w : World} {v : Value} {l : List Int} (h : IntsX B w v l) : ∃ sa sc, v = .slice sa l.length sc := by
 rcases h with h | ⟨a, c, rfl, rfl⟩
 ·exact h.form
 ·exact ⟨_, _, rfl⟩
theorem IntsX.len {B : Nat} {w : World} {v : Value} {l : List Int} (h : IntsX B w v l) : l.length ≤ 17592186044416 := by
 rcases h with h | ⟨a, c, rfl, rfl⟩
 ·exact h.1
 ·simp
theorem IntsX.below {B : Nat} {w w' : World} {v : Value} {l : List Int} (h : IntsX B w v l) (hb : Below B w w') : IntsX B w' v l := by
 rcases h with h | h
 ·exact .inl (h.only (Only.ofBelow (S := (B ≤ ·)) hb (fun k h _ => h)) (fun b hb => by omega))
 ·exact .inr h
theorem IntsX.mono {B B' : Nat} {w : World} {v : Value} {l : List Int} (h : IntsX B w v l) (hB : B ≤ B') : IntsX B' w v l := by
 rcases h with h | h
 ·exact .inl (h.mono (fun b hb => by omega))
 ·exact .inr h
theorem lentInts_any {B : Nat} (v : Value) (l : List Int) (w : World) (hv : IntsX B w v l) :
  Calls Tryz.prog 25 #[v] w fun e w' => ∃ sa sc, e = .returned (.slice sa l.length sc) ∧ Below w.heap.size w w' ∧ LentV w.heap.size w' v sa sc l := by
 obtain ⟨hl, ⟨rfl, rfl⟩ | ⟨b, off, cap, rfl, hb, hc⟩⟩ | ⟨ea, ec, rfl, rfl⟩ := hv
 ·refine (lentInts_nil w).mono ?_
  rintro e w' ⟨rfl, rfl⟩
  exact ⟨none, 0, rfl, Below.refl _ _, .inl ⟨rfl, rfl, rfl, rfl⟩⟩
 ·refine (lentInts_some b off cap l w hl hc).mono ?_
  rintro e w' ⟨g, h1, h2, rfl, h3, h4, h5⟩
  exact ⟨_, _, rfl, h3, .inr ⟨g, rfl, rfl, by simp, h1, h2, h4, h5⟩⟩
 ·refine (lentInts_at ea ec [] w (by simp) (fun j v hv => by simp [ints] at hv)).mono ?_
  rintro e w' ⟨g, h1, h2, rfl, h3, h4, h5⟩
  exact ⟨_, _, rfl, h3, .inr ⟨g, rfl, rfl, by simp, h1, h2, h4, h5⟩⟩
theorem LentV.below {lo : Nat} {w w' : World} {v : Value} {sa : Option Addr} {sc : Nat} {l : List Int} (h : LentV lo w v sa sc l) (hb : Below w.heap.size w w') : LentV lo w' v sa sc l := by
 rcases h with h | ⟨g, h1, h2, h3, h4, h5, h6, h7⟩
 ·exact .inl h
 ·exact .inr ⟨g, h1, h2, h3, h4, by have := hb.size; omega, h6.below hb h5, h7.below hb h5⟩
theorem LentV.only {S : Nat → Prop} {lo : Nat} {w w' : World} {v : Value} {sa : Option Addr} {sc : Nat} {l : List Int} (h : LentV lo w v sa sc l) (ho : Only S w w') (hS : ∀ b, lo ≤ b → ¬ S b) : LentV lo w' v sa sc l := by
 rcases h with h | ⟨g, h1, h2, h3, h4, h5, h6, h7⟩
 ·exact .inl h
 ·exact .inr ⟨g, h1, h2, h3, h4, by have := ho.size; omega, h6.only ho (hS g h4), h7.only ho (hS g h4)⟩
theorem LentV.ints {lo : Nat} {w : World} {v : Value} {sa : Option Addr} {sc : Nat} {l : List Int} (h : LentV lo w v sa sc l) (hl : l.length ≤ 17592186044416) : IntsIn (· < w.heap.size) w (.slice sa l.length sc) l := by
 rcases h with ⟨_, rfl, rfl, rfl⟩ | ⟨g, rfl, rfl, h3, h4, h5, h6, h7⟩
 ·exact ⟨hl, .inl ⟨rfl, rfl⟩⟩
 ·exact ⟨hl, .inr ⟨g, 0, _, rfl, h5, lentI_row h6⟩⟩
end Go.Proofs.YtndlmgocldckfaaGreat
