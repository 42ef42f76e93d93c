import Derived.Test.YtndlmgocldckfaaGreatG03
import Derived.Test.YtndlmgocldckfaaGreatG15
import Derived.Test.YtndlmgocldckfaaGreatG18
import Derived.Lib.BufferWrite
import Derived.Test.YtndlmgocldckfaaGreatG20
import Derived.Test.YtndlmgocldckfaaGreatG11
import Derived.Test.YtndlmgocldckfaaGreatG17
import Derived.Test.YtndlmgocldckfaaGreatTrE
namespace Go.Proofs.YtndlmgocldckfaaGreat
open Go.RowKit
set_option linter.unusedVariables false
set_option linter.unusedSimpArgs false
set_option maxRecDepth 100000
set_option maxHeartbeats 4000000
theorem eqlNilB (w : World) (a : Option Addr) (n c : Nat) : (binOp .eql 56 (.slice a n c) (.slice none 0 0)).run Tryz.prog w = .ok (.bool a.isNone) w := Lib.run_eql_slice_nil w _ _ a n c 0 0 Tryz.underlying56
attribute [local go_sem] eqlNilB
theorem byteCells_strW {l : List Int} (hb : ∀ c ∈ l, 0 ≤ c ∧ c < 256) : Lib.byteCells (strW l).data.toList = byteV l := by
 unfold Lib.byteCells byteV strW
 simp only [List.map_map]
 refine List.map_congr_left fun c hc => ?_
 have h := hb c hc
 have h8 : (UInt8.ofNat c.toNat).toNat = c.toNat % 256 := UInt8.toNat_ofNat'
 simp only [Function.comp, h8]
 congr 1
 omega
theorem wpList_copy_str {P : Program} {w : World} {ops : Array Oper} {rest : List Oper} {o : Oper} {a : Act} {Q : Exit → Act → World → Prop} (hgd : o.guard = none) (d s : Operand) (dT sT : TypeId)
  (ho : o.op = .call { callee := .builtin .copy, args := #[d, s], argTypes := #[dT, sT] }) (elem : TypeId) (hu : P.underlying dT = some (.slice elem)) (hsz : (P.info? elem).map (·.size) = some 1)
  (g dLen dCap : Nat) (l : List Int) (hb : ∀ c ∈ l, 0 ≤ c ∧ c < 256) (hd : a.eval d = .slice (some ⟨g, 0, none⟩) dLen dCap) (hs : a.eval s = .string (strW l)) (hle : l.length ≤ dLen)
  (cur : Array Value) (t : TypeId) (hg : w.heap[g]? = some (.cells cur t (0, 0))) (hfit : l.length ≤ cur.size)
  (h : ∀ w', Only (· = g) w w' → RowAt w' g 0 (byteV l) → Room w' g cur.size → w'.heap.size = w.heap.size → wpList P ops Q rest (a.put o.dst (goInt (strW l).size)) w') : wpList P ops Q (o :: rest) a w := by
 refine wpList_plain hgd fun K hK => ?_
 have hrun := Lib.run_copy_row_string (P := P) w dT sT o.type elem g 0 dLen dCap (strW l) cur t hu hsz hg (by rw [strW_size]; exact hle) (by rw [strW_size]; omega)
 rw [byteCells_strW hb, strW_size] at hrun
 simp only [List.take_zero, List.nil_append, Nat.zero_add] at hrun
 have hlb : (byteV l).length = l.length := byteV_length l
 have hH := setRow_heap w g cur (byteV l ++ cur.toList.drop l.length).toArray t _ hg
 unfold Oper.wp
 simp [execOp, ho, resolve, invoke, builtin, hd, hs, hrun, Result.andThen]
 have hh := h (w.setRow g (byteV l ++ cur.toList.drop l.length).toArray) ⟨rfl, rfl, rfl, by simp [World.setRow], fun k hk hn => setRow_other w g k _ hn⟩ ?_ ?_ (by simp [World.setRow])
 ·rw [strW_size] at hh
  exact hK _ _ hh
 ·intro j v hv
  have hj : j < (byteV l).length := (List.getElem?_eq_some_iff.1 hv).1
  simp [World.cell?, hH, List.getElem?_append, hj, ← hv]
 ·intro j hj
  have : j < (byteV l ++ cur.toList.drop l.length).length := by simp [byteV]; omega
  simp only [World.cell?, World.frozen?, hH]
  simp [byteV]
  omega
def lentY (l : List Int) : List Value := byteV (l ++ List.replicate 8 77)
theorem lentY_room (l : List Int) (k : Nat) (h1 : l.length ≤ k) (h2 : k < l.length + 8) : (lentY l)[k]? = some (.int .u8 77) := by
 rw [lentY, byteV, List.getElem?_map, List.getElem?_append_right h1, List.getElem?_replicate, if_pos (by omega)]; rfl
theorem lentY_elem (l : List Int) (k : Nat) (h : k < l.length) : (lentY l)[k]? = some (.int .u8 l[k]) := by
 rw [lentY, byteV, List.getElem?_map, List.getElem?_append_left h]; simp [h]
theorem lentY_length (l : List Int) : (lentY l).length = l.length + 8 := by simp [lentY, byteV]
theorem lentY_take (l : List Int) : (lentY l).take l.length = byteV l := by simp [lentY, byteV]
theorem strW_nil_eq (l : List Int) : ((strW l).toList == (⟨#[]⟩ : ByteArray).toList) = decide (l = []) := by
 cases l with
 | nil => simp [strW]
 | cons x l =>
  have : ¬ (strW (x :: l)).toList = (⟨#[]⟩ : ByteArray).toList := by
   rw [ByteArray.toList_eq, ByteArray.toList_eq]
   simp [strW]
  simpa using this
theorem lentBytes_some (l : List Int) (raw : Int) (w : World) (hl : l.length ≤ 1000000000) (hv : ∀ c ∈ l, 0 ≤ c ∧ c < 256) (hn : ¬ (l = [] ∧ Int.tmod raw 2 ≠ 0)) :
  Calls Tryz.prog 30 #[.string (strW l), .int .i64 raw] w fun e w' => ∃ g, w.heap.size ≤ g ∧ g < w'.heap.size ∧ e = .returned (.slice (some ⟨g, 0, none⟩) l.length (l.length + 8)) ∧ Below w.heap.size w w' ∧ RowAt w' g 0 (lentY l) ∧ Room w' g (l.length + 8) := by
 have Hv := hide hv
 have hz : (strW l).size = l.length := strW_size l
 have hq := strW_nil_eq l
 have hsz1 : (Tryz.prog.info? 5).map (·.size) = some 1 := by kernel_rfl
 have Hsz := hide hsz1
 clear hv hsz1
 have key : (strW l).toList ≠ [] ∨ ((strW l).toList = [] ∧ (Int.tmod raw 2 != 0) = false) := by
  by_cases h : l = []
  ·right
   refine ⟨by rw [h]; simp [strW], ?_⟩
   by_cases h2 : Int.tmod raw 2 = 0
   ·simpa using h2
   ·exact absurd ⟨h, h2⟩ hn
  ·left
   intro hc
   have := strW_nil_eq l
   rw [hc, decide_eq_false h] at this
   simp at this
 clear hn hq
 rcases key with hk | ⟨hk, hk2⟩
 all_goals
  go_enter Tryz.func30, Tryz.ntmps30
  go_wp2_with (first
   | (at_make; refine wpList_make_alloc _ rfl _ _ 56 rfl 5 (.int .u8 0) 1 1 Tryz.underlying56 Tryz.infoU8 _ _ _ _ (l.length + 8) rfl rfl (by simp) (by simp) (by omega) (by omega) ?_)
   | (refine wpList_copy_str rfl (.tmp 20) (.tmp 21) 56 9 rfl 5 Tryz.underlying56 Hsz.out w.heap.size (l.length + 8) (l.length + 8) l Hv.out rfl rfl (by omega) _ 5 (heap_new _ _) (by simp [size_madeCells]) ?_))
  intro w1 hon hrow hroom hsz
  rw [size_madeCells] at hroom
  have hb1 : Below w.heap.size w w1 := ((Below.refl _ _).alloc (Nat.le_refl _) _).trans (hon.below (by simp) (fun k hk => by omega))
  have Hlen := hide (lentY_length l)
  clear hon
  have hzz : w.heap.size < w1.heap.size := by rw [hsz]; simp
  clear hsz
  go_wp2
  go_loopw [7] (fun i wr => ∃ k : Nat, l.length ≤ k ∧ k ≤ l.length + 8 ∧ i = .int .i64 k ∧ Below w.heap.size w wr ∧ RowAt wr w.heap.size 0 ((lentY l).take k) ∧ Room wr w.heap.size (l.length + 8) ∧ w.heap.size < wr.heap.size) (fun i _ => l.length + 8 - (intOf i).toNat)
  case atStart => exact ⟨l.length, Nat.le_refl _, by omega, rfl, hb1, by rw [lentY_take]; exact hrow, hroom, hzz⟩
  case round =>
   obtain ⟨k, hk1, hk2', rfl, hbel, hrw, hrm, hzr⟩ := hrel
   clear hrow hroom hb1 hzz
   by_cases hlt : k < l.length + 8
   ·obtain ⟨hs, hf⟩ := hrm k hlt
    obtain ⟨u, hu⟩ := Option.isSome_iff_exists.1 hs
    go_wp2
    go_roundw
    case rel =>
     refine ⟨k + 1, by omega, by omega, by go_num, hbel.setCell (by simp) _, ?_, hrm.setCell _ _, by simp [World.setCell]; omega⟩
     have := RowAt.snoc (X := lentY l) (b := w.heap.size) (off := 0) (w := wr) (n := k) (by rw [Hlen.out]; exact hlt) hrw (.int .u8 77) (lentY_room l k hk1 hlt) (by simpa using hs)
     simpa using this
    case measure => simp [intOf]; omega
   ·have hk : k = l.length + 8 := by omega
    rw [List.take_of_length_le (by rw [Hlen.out]; omega)] at hrw
    go_wp2
    go_ret
    exact ⟨w.heap.size, Nat.le_refl _, hzr, by simp, hbel, hrw, hrm⟩
theorem lentBytes_nil (raw : Int) (w : World) (hr : Int.tmod raw 2 ≠ 0) : Calls Tryz.prog 30 #[.string (strW []), .int .i64 raw] w fun e w' => e = .returned (.slice none 0 0) ∧ w' = w := by
 have hq : (strW []).toList = [] := by simp [strW]
 have hk2 : (Int.tmod raw 2 != 0) = true := by simpa using hr
 go_enter Tryz.func30, Tryz.ntmps30
 go_wp2
 go_ret
 exact ⟨rfl, rfl⟩
theorem wholeBytes_some (g : Nat) (l : List Int) (w : World) (hl : l.length ≤ 1000000000) (hv : ∀ c ∈ l, 0 ≤ c ∧ c < 256) (hr : RowAt w g 0 (lentY l)) (hm : Room w g (l.length + 8)) :
  Calls Tryz.prog 33 #[.slice (some ⟨g, 0, none⟩) l.length (l.length + 8), .string (strW l)] w fun e w' => e = .returned (.bool true) ∧ Only (· = g) w w' := by
 have hz : (strW l).size = l.length := strW_size l
 have hrb : RowAt w g 0 (byteV l) := by
  intro j v hv
  have hj : j < l.length := by have := (List.getElem?_eq_some_iff.1 hv).1; simpa [byteV] using this
  refine hr j v ?_
  rw [lentY_elem l j hj]
  simpa [byteV, hj] using hv
 have hcv := conv_win (cap := l.length + 8) hrb hv
 clear hrb hv
 go_enter Tryz.func33, Tryz.ntmps33
 go_wp2
 go_loopw [7, 8] (fun ok i wr => ∃ k : Nat, k ≤ l.length + 8 ∧ i = .int .i64 k ∧ ok = .bool true ∧ Only (· = g) w wr ∧ RowAt wr g k ((lentY l).drop k) ∧ Room wr g (l.length + 8)) (fun _ i _ => l.length + 8 - (intOf i).toNat)
 case atStart => exact ⟨0, by omega, rfl, rfl, Only.refl _ _, by simpa using hr, hm⟩
 case round =>
  obtain ⟨k, hk, rfl, rfl, hon, hrw, hrm⟩ := hrel
  clear hcv hr hm
  by_cases hlt : k < l.length + 8
  ·obtain ⟨hs, hf⟩ := hrm k hlt
   have hnext : RowAt (wr.setCell ⟨g, k, none⟩ (.int .u8 1)) g (k + 1) ((lentY l).drop (k + 1)) := by
    intro j v hv
    rw [World.cell?_setCell_other _ _ _ _ (by simp; try omega)]
    have := hrw (j + 1) v (by rw [List.getElem?_drop] at hv ⊢; rw [← hv]; congr 1; omega)
    rw [← this]; congr 2; omega
   have Hn := hide hnext
   clear hnext
   by_cases hl2 : k < l.length
   ·have hu : wr.cell? ⟨g, k, none⟩ = some (.int .u8 l[k]) := hrw 0 _ (by rw [List.getElem?_drop]; simpa using lentY_elem l k hl2)
    go_wp2
    go_roundw
    case rel => exact ⟨k + 1, by omega, by go_num, rfl, hon.setCell rfl _, Hn.out, hrm.setCell _ _⟩
    case measure => simp [intOf]; omega
   ·have hu : wr.cell? ⟨g, k, none⟩ = some (.int .u8 77) := hrw 0 _ (by rw [List.getElem?_drop]; simpa using lentY_room l k (by omega) hlt)
    go_wp2
    go_roundw
    case rel => exact ⟨k + 1, by omega, by go_num, rfl, hon.setCell rfl _, Hn.out, hrm.setCell _ _⟩
    case measure => simp [intOf]; omega
  ·go_wp2
   go_ret
   exact ⟨rfl, hon⟩
theorem wholeBytes_nil (v : Value) (w : World) : Calls Tryz.prog 33 #[.slice none 0 0, v] w fun e w' => e = .returned (.bool true) ∧ w' = w := by
 go_enter Tryz.func33, Tryz.ntmps33
 go_wp2
 go_ret
 exact ⟨rfl, rfl⟩
def LentZ (lo : Nat) (w : World) (ba : Option Addr) (bc : Nat) (l : List Int) : Prop :=
 (ba = none ∧ bc = 0 ∧ l = []) ∨ ∃ g, ba = some ⟨g, 0, none⟩ ∧ bc = l.length + 8 ∧ lo ≤ g ∧ g < w.heap.size ∧ RowAt w g 0 (lentY l) ∧ Room w g (l.length + 8)
theorem LentZ.below {lo : Nat} {w w' : World} {ba : Option Addr} {bc : Nat} {l : List Int} (h : LentZ lo w ba bc l) (hb : Below w.heap.size w w') : LentZ lo w' ba bc l := by
 rcases h with h | ⟨g, h1, h2, h3, h4, h5, h6⟩
 ·exact .inl h
 ·exact .inr ⟨g, h1, h2, h3, Nat.lt_of_lt_of_le h4 hb.size, h5.below hb h4, h6.below hb h4⟩
theorem LentZ.only {S : Nat → Prop} {lo : Nat} {w w' : World} {ba : Option Addr} {bc : Nat} {l : List Int} (h : LentZ lo w ba bc l) (ho : Only S w w') (hS : ∀ b, lo ≤ b → ¬ S b) : LentZ lo w' ba bc l := by
 rcases h with h | ⟨g, h1, h2, h3, h4, h5, h6⟩
 ·exact .inl h
 ·exact .inr ⟨g, h1, h2, h3, Nat.lt_of_lt_of_le h4 ho.size, h5.only ho (hS g h3), h6.only ho (hS g h3)⟩
theorem LentZ.bytes {lo : Nat} {w : World} {ba : Option Addr} {bc : Nat} {l : List Int} (h : LentZ lo w ba bc l) (hv : ∀ c ∈ l, 0 ≤ c ∧ c < 256) (hl : l.length ≤ 1000000000) : BytesV w ba bc l := by
 rcases h with ⟨rfl, rfl, rfl⟩ | ⟨g, rfl, rfl, h3, h4, h5, h6⟩
 ·exact ⟨by simp, by simp, by simp, fun h8 => by simp at h8⟩
 ·refine ⟨by omega, by omega, hv, fun _ => ⟨g, 0, rfl, ?_, h4⟩⟩
  intro j v hvj
  have hj : j < l.length := by have := (List.getElem?_eq_some_iff.1 hvj).1; simpa [byteV] using this
  refine h5 j v ?_
  rw [lentY_elem l j hj]
  simpa [byteV, hj] using hvj
theorem lentBytes_any (l : List Int) (raw : Int) (w : World) (hl : l.length ≤ 1000000000) (hv : ∀ c ∈ l, 0 ≤ c ∧ c < 256) :
  Calls Tryz.prog 30 #[.string (strW l), .int .i64 raw] w fun e w' => ∃ ba bc, e = .returned (.slice ba l.length bc) ∧ Below w.heap.size w w' ∧ LentZ w.heap.size w' ba bc l := by
 by_cases hn : l = [] ∧ Int.tmod raw 2 ≠ 0
 ·obtain ⟨rfl, hr⟩ := hn
  refine (lentBytes_nil raw w hr).mono ?_
  rintro e w' ⟨rfl, rfl⟩
  exact ⟨none, 0, rfl, Below.refl _ _, .inl ⟨rfl, rfl, rfl⟩⟩
 ·refine (lentBytes_some l raw w hl hv hn).mono ?_
  rintro e w' ⟨g, h1, h2, rfl, hb, h3, h4⟩
  exact ⟨_, _, rfl, hb, .inr ⟨g, rfl, rfl, h1, h2, h3, h4⟩⟩
theorem wholeBytes_any (lo hi : Nat) (l : List Int) (ba : Option Addr) (bc : Nat) (w : World) (hl : l.length ≤ 1000000000) (hv : ∀ c ∈ l, 0 ≤ c ∧ c < 256) (h : LentZ lo w ba bc l) (hhi : ∀ g, ba = some ⟨g, 0, none⟩ → g < hi) :
  Calls Tryz.prog 33 #[.slice ba l.length bc, .string (strW l)] w fun e w' => e = .returned (.bool true) ∧ Only (fun b => lo ≤ b ∧ b < hi) w w' := by
 rcases h with ⟨rfl, rfl, rfl⟩ | ⟨g, rfl, rfl, h3, h4, h5, h6⟩
 ·refine (wholeBytes_nil _ w).mono ?_
  rintro e w' ⟨rfl, rfl⟩
  exact ⟨rfl, Only.refl _ _⟩
 ·refine (wholeBytes_some g l w hl hv h5 h6).mono ?_
  rintro e w' ⟨rfl, ho⟩
  exact ⟨rfl, ho.mono (fun b _ hb => by have := hhi g rfl; omega)⟩
theorem conv_row {base : Nat} {w : World} {g n cap : Nat} {l : List Int} (h : BRow base w (.slice (some ⟨g, 0, none⟩) n cap) l) (hb : ∀ b ∈ l, 0 ≤ b ∧ b < 256) : (convert 56 9 (.slice (some ⟨g, 0, none⟩) n cap)).run Tryz.prog w = .ok (.string (strW l)) w := by
 obtain ⟨g', cap', e, _, _, hr⟩ := h.row
 rw [e]
 exact conv_win hr hb
theorem strSelf (l : List Int) : ((strW l).toList == (strW l).toList) = true := by simp
attribute [local go_sem] eqlNilB
theorem written_encode {base : Nat} (wb : Nat) (lv : Value) (ps : List Pair) (k : BkD) (J : Nat) (a b c d ents : Int) (kv l rv qv sv : Value) (rs : List Rec) (w : World) (h : Inv base w wb lv ps (bookOf k)) (hr : RecsX base w rv rs) (hG : BkLen J k) (hJ : J ≤ 2000000) (hb0 : 0 < base) :
  Calls Tryz.prog 16 #[.pointer (some ⟨wb, 0, none⟩), .agg #[.int .i64 10, .int .i64 a, .int .i64 b, .int .i64 c, .int .i64 d, .int .i64 ents, kv, l, rv, qv, sv]] w
   fun e w' => e = .returned (.bool true) ∧ Below base w w' ∧ ∃ k', Inv base w' wb lv ps (bookOf k') ∧ BkLen (J + 1) k' := by
 have hbl := h.lo
 have hwl := h.wlt
 obtain ⟨W, hW⟩ : ∃ W, W = w.alloc (.cells #[.int .i64 10, .int .i64 a, .int .i64 b, .int .i64 c, .int .i64 d, .int .i64 ents, kv, l, rv, qv, sv] 41) := ⟨_, rfl⟩
 have hb : Below w.heap.size w W := by rw [hW]; exact (Below.refl _ _).alloc (Nat.le_refl _) _
 have hWs : W.heap.size = w.heap.size + 1 := by rw [hW]; simp
 have hop : OpAt W w.heap.size 10 b rv qv sv := by rw [hW]; exact OpAt.new _ _ _ _ _ _ _ _ _ _ _ _ _
 obtain ⟨ra, rc, rfl, _⟩ := hr.recIn
 have HR : Hid (∀ W', Below w.heap.size w W' → RecIn W' ra rs) := by
  intro W' hb'
  obtain ⟨_, _, e1, hi1⟩ := (hr.below (hb'.mono hbl)).recIn
  cases e1
  exact hi1
 have Hl1 : Hid (rs.length ≤ 1000000000000000) := by have := hr.1; show _ ≤ _; omega
 have c0 := hop.c0
 have c8 := hop.c8
 have HW := hide hW
 have HO := hide hop
 have HL := hide (lentRecords_any _ rs W (hr.below (hb.mono hbl)) (by omega) hb0)
 have HB := hide hb
 have HG := hide hG
 have g3 := hG.bl
 clear hr hop hW hb hG
 go_enter Tryz.func16, Tryz.ntmps16
 go_wp2_with fail
 rw [← HW.out]
 go_wp2_with fail
 refine HL.out.mono ?_
 rintro e w1 ⟨sa, sc, ma, mn, mc, rfl, hb1, hQ1⟩
 have hz1 := hb1.size
 have HB1 : Hid (Below w.heap.size w w1) := HB.out.trans (hb1.mono (by omega))
 have HO1 := hide (HO.out.below hb1 (by omega))
 have c0 := HO1.out.c0
 have HQ1 := hide hQ1
 obtain ⟨_, _, e1, hi1⟩ := HQ1.out.recIn
 cases e1
 have HI1 := hide hi1
 clear hQ1 hb1 HL c8 HO hi1
 rcases ha : areF rs with _ | _
 ·have HE := hide (encode_no sa sc rs w1 HI1.out Hl1.out ha)
  have e1 : encS rs = [] := by simp [encS, ha]
  have e2 : encN rs = 1 := by simp [encN, ha]
  have HE1 := hide e1
  have HE2 := hide e2
  clear e1 e2 ha
  go_wp2_with fail
  refine HE.out.mono ?_
  rintro e w2 ⟨rfl, hb2⟩
  have hz2 := hb2.size
  have HB2 : Hid (Below w.heap.size w w2) := HB1.out.trans (hb2.mono (by omega))
  have HO2 := hide (HO1.out.below hb2 (by omega))
  have c8 := HO2.out.c8
  have HQ2 := hide (HQ1.out.below hb2)
  have hen := rencode_any ra rc rs w2 (HR.out w2 HB2.out)
  rw [HE1.out, HE2.out] at hen
  have HEn := hide hen
  clear hb2 HE HQ1 HO1 c0 hen
  go_wp2_with fail
  refine HEn.out.mono ?_
  rintro e w3 ⟨rfl, hb3⟩
  have hz3 := hb3.size
  have HB3 : Hid (Below w.heap.size w w3) := HB2.out.trans (hb3.mono (by omega))
  have HO3 := hide (HO2.out.below hb3 (by omega))
  have c8 := HO3.out.c8
  have HQ3 := hide (HQ2.out.below hb3)
  have HX := hide (wholeRecords_any _ _ _ rs w3 HQ3.out)
  clear hb3 HEn HQ2 HO2
  go_wp2_with fail
  refine HX.out.mono ?_
  rintro e w4 ⟨rfl, ho4⟩
  have hz4 := ho4.size
  have HB4 : Hid (Below w.heap.size w w4) := HB3.out.trans (ho4.below (by omega) (fun k hk hc => by omega))
  have HI4 := hide (h.below HB4.out)
  have HKb := hide (keepsBytes_any (Z := 0) wb k none 0 0 [] w4 HI4.out.bkp (.inl ⟨rfl, rfl⟩) rfl (by omega) (by omega) HG.out.b4 (by omega) (fun b hb => by simp [Value.ownBlock] at hb))
  have hcv : (convert 56 9 (.slice none 0 0)).run Tryz.prog w4 = .ok (.string (strW [])) w4 := by rfl
  have hs1 := strSelf []
  clear ho4 HX HQ3 HO3 c8
  go_wp2_with fail
  refine HKb.out.mono ?_
  rintro e w5 ⟨rfl, k', hst, q1, q2, q3⟩
  have HI5 := hide (HI4.out.bookStep hst (fun b hb => by simp [Value.ownBlock] at hb))
  have HBB : Hid (Below base w w5) := by
   refine (HB4.out.mono hbl).trans (hst.only.below (by omega) ?_)
   rintro b hb (hc | hc | hc)
   ·have := h.blo; omega
   ·have := (h.bks b hc).1; omega
   ·simp [Value.ownBlock] at hc
  have HLen : Hid (BkLen (J + 1) k') := ⟨by rw [q3]; have := HG.out.il; omega, by rw [q3]; exact HG.out.i4, by rw [q2]; have := HG.out.rl; omega, by rw [q2]; exact HG.out.r4, by have := HG.out.bl; omega, by have := HG.out.b4; omega⟩
  clear hst q1 q2 q3 HKb
  go_wp2_with fail
  go_ret
  exact ⟨by simp, HBB.out, k', HI5.out, HLen.out⟩
 ·have HE := hide (encode_yes sa sc rs w1 HI1.out ha)
  have e1 : encS rs = encF rs := by simp [encS, ha]
  have e2 : encN rs = 0 := by simp [encN, ha]
  have HE1 := hide e1
  have HE2 := hide e2
  have Hby := hide (encF_bytes ha)
  have hl6 : (encF rs).length ≤ 1000000 := by have := encF_len rs; have := encT_len ha; omega
  have Hl6 := hide hl6
  generalize encF rs = X at HE HE1 Hby Hl6
  clear e1 e2 ha hl6
  go_wp2_with fail
  refine HE.out.mono ?_
  rintro e w2 ⟨v, rfl, hb2, hrow⟩
  obtain ⟨g, cap, rfl⟩ := hrow.form
  have hz2 := hb2.size
  have HB2 : Hid (Below w.heap.size w w2) := HB1.out.trans (hb2.mono (by omega))
  have HO2 := hide (HO1.out.below hb2 (by omega))
  have c8 := HO2.out.c8
  have HQ2 := hide (HQ1.out.below hb2)
  have Hrow := hide hrow
  have hen := rencode_any ra rc rs w2 (HR.out w2 HB2.out)
  rw [HE1.out, HE2.out] at hen
  have HEn := hide hen
  clear hb2 HE HQ1 HO1 c0 hen hrow
  go_wp2_with fail
  refine HEn.out.mono ?_
  rintro e w3 ⟨rfl, hb3⟩
  have hz3 := hb3.size
  have HB3 : Hid (Below w.heap.size w w3) := HB2.out.trans (hb3.mono (by omega))
  have HO3 := hide (HO2.out.below hb3 (by omega))
  have c8 := HO3.out.c8
  have HQ3 := hide (HQ2.out.below hb3)
  have HX := hide (wholeRecords_any _ _ _ rs w3 HQ3.out)
  have Hrow3 : Hid (BRow w1.heap.size w3 (.slice (some ⟨g, 0, none⟩) X.length cap) X) := Hrow.out.keep (Only.new (S := fun _ => False) hb3) (by simp)
  clear hb3 HEn HQ2 HO2
  go_wp2_with fail
  refine HX.out.mono ?_
  rintro e w4 ⟨rfl, ho4⟩
  have hz4 := ho4.size
  have hglt := Hrow.out.lt g rfl
  have HB4 : Hid (Below w.heap.size w w4) := HB3.out.trans (ho4.below (by omega) (fun k hk hc => by omega))
  have HI4 := hide (h.below HB4.out)
  have hrow4 : BRow w1.heap.size w4 (.slice (some ⟨g, 0, none⟩) X.length cap) X := Hrow3.out.keep ho4 (fun b hb hc => by
   have e : b = g := by simpa [Value.ownBlock] using hb
   omega)
  have hcv := conv_row hrow4 Hby.out
  have hs1 := strSelf X
  have HKb := hide (keepsBytes_any wb k (some ⟨g, 0, none⟩) X.length cap X w4 HI4.out.bkp (.inr hrow4) rfl (by omega) Hl6.out HG.out.b4 (by omega) (fun b hb => by
   have e : b = g := by simpa [Value.ownBlock] using hb
   rw [e]
   exact ⟨fun hc => by have := h.bkp.ok.lt g hc; omega, by omega⟩))
  clear ho4 HX HQ3 HO3 c8 hrow4 Hrow Hrow3
  go_wp2_with fail
  refine HKb.out.mono ?_
  rintro e w5 ⟨rfl, k', hst, q1, q2, q3⟩
  have hsz5 : g < w4.heap.size := by omega
  have HI5 := hide (HI4.out.bookStep hst (fun b hb => by
   have e : b = g := by simpa [Value.ownBlock] using hb
   rw [e]
   refine ⟨by omega, by omega, by omega, fun hc => ?_, fun q hq hc => ?_⟩
   ·have := (h.owns.lt g hc.symm).2; omega
   ·have := (h.pairs q hq).lt g hc; omega))
  have HBB : Hid (Below base w w5) := by
   refine (HB4.out.mono hbl).trans (hst.only.below (by omega) ?_)
   rintro b hb (hc | hc | hc)
   ·have := h.blo; omega
   ·have := (h.bks b hc).1; omega
   ·have e : b = g := by simpa [Value.ownBlock] using hc
    omega
  have HLen : Hid (BkLen (J + 1) k') := ⟨by rw [q3]; have := HG.out.il; omega, by rw [q3]; exact HG.out.i4, by rw [q2]; have := HG.out.rl; omega, by rw [q2]; exact HG.out.r4, by have := HG.out.bl; omega, by have := HG.out.b4; omega⟩
  clear hst q1 q2 q3 HKb
  go_wp2_with fail
  go_ret
  exact ⟨by simp, HBB.out, k', HI5.out, HLen.out⟩
theorem written_decode {base : Nat} (wb : Nat) (lv : Value) (ps : List Pair) (k : BkD) (J : Nat) (a b c d ents : Int) (kv l rv qv : Value) (bl : List Int) (w : World) (h : Inv base w wb lv ps (bookOf k)) (hv : ∀ c ∈ bl, 0 ≤ c ∧ c < 256) (hbl8 : bl.length ≤ 1000000000) (hG : BkLen J k) (hJ : J ≤ 2000000) :
  Calls Tryz.prog 16 #[.pointer (some ⟨wb, 0, none⟩), .agg #[.int .i64 11, .int .i64 a, .int .i64 b, .int .i64 c, .int .i64 d, .int .i64 ents, kv, l, rv, qv, .string (strW bl)]] w
   fun e w' => e = .returned (.bool true) ∧ Below base w w' ∧ ∃ k', Inv base w' wb lv ps (bookOf k') ∧ BkLen (J + 1) k' := by
 have hbl := h.lo
 have hwl := h.wlt
 obtain ⟨W, hW⟩ : ∃ W, W = w.alloc (.cells #[.int .i64 11, .int .i64 a, .int .i64 b, .int .i64 c, .int .i64 d, .int .i64 ents, kv, l, rv, qv, .string (strW bl)] 41) := ⟨_, rfl⟩
 have hb : Below w.heap.size w W := by rw [hW]; exact (Below.refl _ _).alloc (Nat.le_refl _) _
 have hWs : W.heap.size = w.heap.size + 1 := by rw [hW]; simp
 have hop : OpAt W w.heap.size 11 b rv qv (.string (strW bl)) := by rw [hW]; exact OpAt.new _ _ _ _ _ _ _ _ _ _ _ _ _
 have c0 := hop.c0
 have c2 := hop.c2
 have cS := hop.c10
 have HW := hide hW
 have HO := hide hop
 have HL := hide (lentBytes_any bl b W hbl8 hv)
 have Hv := hide hv
 have HB := hide hb
 have HG := hide hG
 have g1 := hG.il
 have g2 := hG.rl
 obtain ⟨hdN, hdR⟩ := decN_eq hv
 have HD : Hid (∀ w2 : World, Calls Tryz.prog 35 #[.string (strW bl)] w2 fun e w' => Below w2.heap.size w2 w' ∧ ((decE bl = 0 ∧ ∃ a cap, e = .returned (.tuple #[.slice a (decRF (openL bl)).1.length cap, .int .i64 0]) ∧ ∃ L, AllR w' w2.heap.size (.slice a (decRF (openL bl)).1.length cap) L (decRF (openL bl)).1) ∨ (decE bl ≠ 0 ∧ e = .returned (.tuple #[.slice none 0 0, .int .i64 (decE bl)])))) := by
  intro w2
  refine (rdecode_any bl w2 hv hbl8).mono ?_
  rintro e w' ⟨hb, ⟨h0, a, cap, rfl, hi⟩ | ⟨h0, rfl⟩⟩
  ·rw [hdN] at h0
   rw [hdR h0] at hi ⊢
   exact ⟨hb, .inl ⟨h0, a, cap, rfl, hi⟩⟩
  ·rw [hdN] at h0 ⊢
   exact ⟨hb, .inr ⟨h0, rfl⟩⟩
 have HT : Hid (decE bl = 0 → (decRF (openL bl)).1.length ≤ 1000 ∧ ∀ r ∈ (decRF (openL bl)).1, r.told.length ≤ 1000000) := by
  intro h0
  have ha := (dec_enc hv h0).1
  obtain ⟨h1, h2⟩ := areF_len ha
  exact ⟨h1, fun r hr => by have := (recsOkF_mem h2 r hr).len; omega⟩
 clear hop hW hb hG hv hdN hdR
 go_enter Tryz.func16, Tryz.ntmps16
 go_wp2_with fail
 rw [← HW.out]
 go_wp2_with fail
 refine HL.out.mono ?_
 rintro e w1 ⟨ba, bc, rfl, hb1, hZ1⟩
 have hz1 := hb1.size
 have HB1 : Hid (Below w.heap.size w w1) := HB.out.trans (hb1.mono (by omega))
 have HO1 := hide (HO.out.below hb1 (by omega))
 have HZ1 := hide hZ1
 have HDc := hide (decode_any ba bc bl w1 (hZ1.bytes Hv.out hbl8))
 have Hg : Hid (∀ g, ba = some ⟨g, 0, none⟩ → g < w1.heap.size) := by
  intro g hg
  rcases hZ1 with ⟨e, _⟩ | ⟨g', e, _, _, hlt, _, _⟩
  ·rw [e] at hg; cases hg
  ·rw [e] at hg
   simp only [Option.some.injEq, Addr.mk.injEq, and_true] at hg
   omega
 clear hZ1 hb1 HL c0 c2 cS HO
 go_wp2_with fail
 refine HDc.out.mono ?_
 rintro e w2 ⟨v, rfl, hb2, hno, hyes⟩
 have hz2 := hb2.size
 have HB2 : Hid (Below w.heap.size w w2) := HB1.out.trans (hb2.mono (by omega))
 have HO2 := hide (HO1.out.below hb2 (by omega))
 have cS := HO2.out.c10
 have HZ2 := hide (HZ1.out.below hb2)
 obtain ⟨E, hE⟩ : ∃ E, E = decE bl := ⟨_, rfl⟩
 obtain ⟨rs, hrs⟩ : ∃ rs, rs = (decRF (openL bl)).1 := ⟨_, rfl⟩
 rw [← hE, ← hrs] at HD HT
 rw [← hE] at hno hyes ⊢
 rw [← hrs] at hyes
 clear hE hrs HDc HZ1 HO1 hb2
 by_cases h0 : E = 0
 ·subst h0
  obtain ⟨L, hA, hAp⟩ := hyes rfl
  have hLr : L.length = rs.length := hA.len
  obtain ⟨la, lc, hvv⟩ := owns_formK hA.row
  rw [hLr] at hvv
  subst hvv
  have HA := hide hA
  have HAp := hide hAp
  obtain ⟨hn, htl⟩ := HT.out rfl
  have Htl := hide htl
  have HD2 := hide (HD.out w2)
  clear hno hyes hA hAp htl HT HD
  go_wp2_with fail
  refine HD2.out.mono ?_
  rintro e w3 ⟨hb3, ⟨_, ma, mc, rfl, hin⟩ | ⟨hx, _⟩⟩
  rotate_left
  ·exact absurd rfl hx
  have hz3 := hb3.size
  have HB3 : Hid (Below w.heap.size w w3) := HB2.out.trans (hb3.mono (by omega))
  have HO3 := hide (HO2.out.below hb3 (by omega))
  have cS := HO3.out.c10
  have HZ3 := hide (HZ2.out.below hb3)
  have HX := hide (wholeBytes_any W.heap.size w1.heap.size bl ba bc w3 hbl8 Hv.out HZ3.out Hg.out)
  have HA3 := hide (HA.out.only (Only.new (S := fun _ => False) hb3) (by simp))
  have HIn := hide hin
  clear hb3 HD2 HZ2 HO2 hin HA
  go_wp2_with fail
  refine HX.out.mono ?_
  rintro e w4 ⟨rfl, ho4⟩
  have hz4 := ho4.size
  have HB4 : Hid (Below w.heap.size w w4) := HB3.out.trans (ho4.below (by omega) (fun k hk hc => by omega))
  have HI4 := hide (h.below HB4.out)
  have hset : ∀ b, AllSet (.slice la rs.length lc) L b → w1.heap.size ≤ b ∧ b < w3.heap.size := fun b hb => HA3.out.lt b hb
  have hA4 : AllR w4 w1.heap.size (.slice la rs.length lc) L rs := HA3.out.only ho4 (fun b hb hc => by have := hset b hb; omega)
  have HIn4 : Hid (RecIn w4 ma rs) := by
   obtain ⟨L2, hL2⟩ := HIn.out
   obtain ⟨_, _, e, hi⟩ := (hL2.only ho4 (fun b hb hc => by have := hL2.lt b hb; omega)).recIn
   cases e
   exact hi
  have HRec := hide (records_any wb k la ma rs.length lc mc L rs 0 w4 HI4.out.bkp hA4 HAp.out HIn4.out (by omega) hn Htl.out HG.out.i4 HG.out.r4 (by omega) (by omega) (fun b hb => ⟨fun hc => by have h1 := h.bkp.ok.lt b hc; have h2 := hset b hb; omega, fun hc => by have h2 := hset b hb; omega⟩) (.inl rfl))
  have Hset := hide hset
  clear ho4 HX HZ3 HO3 cS hset hA4 HIn HIn4 HA3
  go_wp2_with fail
  refine HRec.out.mono ?_
  rintro e w5 ⟨rfl, k', hst, q1, q2, q3, q4⟩
  have HI5 := hide (HI4.out.bookStep hst (fun b hb => by
   have h2 := Hset.out b hb
   refine ⟨by omega, by omega, by omega, fun hc => ?_, fun q hq hc => ?_⟩
   ·have := (h.owns.lt b hc.symm).2; omega
   ·have := (h.pairs q hq).lt b hc; omega))
  have HBB : Hid (Below base w w5) := by
   refine (HB4.out.mono hbl).trans (hst.only.below (by omega) ?_)
   rintro b hb (hc | hc | hc)
   ·have := h.blo; omega
   ·have := (h.bks b hc).1; omega
   ·have := Hset.out b hc; omega
  have HLen : Hid (BkLen (J + 1) k') := ⟨by have := HG.out.il; omega, q2, by have := HG.out.rl; omega, by have := HG.out.r4; omega, by rw [q4]; have := HG.out.bl; omega, by rw [q4]; exact HG.out.b4⟩
  clear hst q1 q2 q3 q4 HRec
  go_wp2_with fail
  go_ret
  exact ⟨by simp, HBB.out, k', HI5.out, HLen.out⟩
 ·have hvv := hno h0
  subst hvv
  have HD2 := hide (HD.out w2)
  have Hn0 := hide h0
  clear hno hyes HT HD h0
  go_wp2_with fail
  refine HD2.out.mono ?_
  rintro e w3 ⟨hb3, ⟨hx, _⟩ | ⟨_, rfl⟩⟩
  ·exact absurd hx Hn0.out
  have hz3 := hb3.size
  have HB3 : Hid (Below w.heap.size w w3) := HB2.out.trans (hb3.mono (by omega))
  have HO3 := hide (HO2.out.below hb3 (by omega))
  have cS := HO3.out.c10
  have HZ3 := hide (HZ2.out.below hb3)
  have HX := hide (wholeBytes_any W.heap.size w1.heap.size bl ba bc w3 hbl8 Hv.out HZ3.out Hg.out)
  clear hb3 HD2 HZ2 HO2
  go_wp2_with fail
  refine HX.out.mono ?_
  rintro e w4 ⟨rfl, ho4⟩
  have hz4 := ho4.size
  have HB4 : Hid (Below w.heap.size w w4) := HB3.out.trans (ho4.below (by omega) (fun k hk hc => by omega))
  have HI4 := hide (h.below HB4.out)
  have hno : ∀ b, ¬ AllSet (.slice none 0 0) [] b := by
   intro b hb
   rcases hb with hb | ⟨x, hx, _⟩
   ·simp [Value.ownBlock] at hb
   ·simp at hx
  have HRec := hide (records_any wb k none none 0 0 0 [] [] E w4 HI4.out.bkp (AllR.nil w4 w4.heap.size) (fun j k x y b hx => by simp at hx) (fun i r hr => by simp at hr) (Nat.le_refl _) (by omega) (by simp) HG.out.i4 HG.out.r4 (by omega) (by omega) (fun b hb => absurd hb (hno b)) (.inr ⟨rfl, rfl, rfl⟩))
  have Hno := hide hno
  clear ho4 HX HZ3 HO3 cS hno
  go_wp2_with fail
  refine HRec.out.mono ?_
  rintro e w5 ⟨rfl, k', hst, q1, q2, q3, q4⟩
  have HI5 := hide (HI4.out.bookStep hst (fun b hb => absurd hb (Hno.out b)))
  have HBB : Hid (Below base w w5) := by
   refine (HB4.out.mono hbl).trans (hst.only.below (by omega) ?_)
   rintro b hb (hc | hc | hc)
   ·have := h.blo; omega
   ·have := (h.bks b hc).1; omega
   ·exact absurd hc (Hno.out b)
  have HLen : Hid (BkLen (J + 1) k') := ⟨by have := HG.out.il; omega, q2, by have := HG.out.rl; omega, by have := HG.out.r4; omega, by rw [q4]; have := HG.out.bl; omega, by rw [q4]; exact HG.out.b4⟩
  clear hst q1 q2 q3 q4 HRec
  go_wp2_with fail
  go_ret
  exact ⟨by simp, HBB.out, k', HI5.out, HLen.out⟩
end Go.Proofs.YtndlmgocldckfaaGreat
