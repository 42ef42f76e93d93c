import Derived.Test.YtndlmgocldckfaaGreatG03
import Derived.Lib.ConvBytes
namespace Go.Proofs.YtndlmgocldckfaaGreat
open Go.RowKit
set_option linter.unusedVariables false
set_option linter.unusedSimpArgs false
set_option maxRecDepth 100000
set_option maxHeartbeats 4000000
def strB (s : ByteArray) : List Int := s.data.toList.map fun b => (b.toNat : Int)
theorem strB_length (s : ByteArray) : (strB s).length = s.size := by simp [strB]
theorem bytesWorld_below (w : World) (e : TypeId) (s : ByteArray) : Below w.heap.size w (Lib.bytesWorld w e s) :=
 ⟨rfl, rfl, rfl, by rw [Lib.bytesWorld_size]; omega, fun k hk => Lib.bytesWorld_at_old w e s k hk⟩
theorem bytesWorld_row (w : World) (s : ByteArray) (hs : s.size ≤ 1000) : BRow w.heap.size (Lib.bytesWorld w 5 s) (.slice (some ⟨w.heap.size, 0, none⟩) (strB s).length (grownCap w s.size 0 5)) (strB s) := by
 have hge := grownCap_ge w s.size 0 5
 have hcm : grownCap w s.size 0 5 ≤ maxLen := grownCap_le_maxLen w s.size 0 5 (by simp only [maxLen]; omega)
 have hl := strB_length s
 have hsz : (Lib.bytesCells w 5 s).size = grownCap w s.size 0 5 := by
  simp [Lib.bytesCells]
  have : s.data.size = s.size := rfl
  omega
 refine ⟨w.heap.size, _, _, _, rfl, Nat.le_refl _, Lib.bytesWorld_at_new w 5 s, ?_, by omega, hcm, hsz, ?_⟩
 ·intro i hi; simp; omega
 ·have : (Lib.bytesCells w 5 s).toList = byteV (strB s) ++ List.replicate (grownCap w s.size 0 5 - s.size) (.int .u8 0) := by
   simp [Lib.bytesCells, byteV, strB, Function.comp_def]
  rw [this, show (strB s).length = (byteV (strB s)).length by simp [byteV]]
  exact List.take_left
theorem begin_any (w : World) (s : ByteArray) (hs : s.size ≤ 1000) :
  Calls Tryz.prog 75 #[.string s] w fun e w' => ∃ wb lv, e = .returned (.pointer (some ⟨wb, 0, none⟩)) ∧ Below w.heap.size w w' ∧ w.heap.size ≤ wb ∧ WrP w.heap.size w' wb lv (strB s) ∧ (∀ b, some b = lv.ownBlock → w.heap.size ≤ b) := by
 have hcv := Lib.run_convert_string_bytes (P := Tryz.prog) w 9 56 5 s Tryz.underlying9 Tryz.underlying56 Tryz.underlying5
 have hrow := bytesWorld_row w s hs
 have hbel := bytesWorld_below w 5 s
 have hsz := Lib.bytesWorld_size w 5 s
 generalize Lib.bytesWorld w 5 s = W1 at hcv hrow hbel hsz
 generalize grownCap w s.size 0 5 = cap at hcv hrow
 rw [strB_length] at hrow
 have Hrow := hide hrow
 have Hbel := hide hbel
 clear hrow hbel
 go_enter Tryz.func75, Tryz.ntmps75
 go_wp2_with fail
 go_ret
 obtain ⟨W2, hW2⟩ : ∃ W2, W2 = W1.alloc (.cells #[.slice (some ⟨w.heap.size, 0, none⟩) s.size cap] 167) := ⟨_, rfl⟩
 have hb2 : Below W1.heap.size W1 W2 := by rw [hW2]; exact (Below.refl _ _).alloc (Nat.le_refl _) _
 rw [← hW2]
 refine ⟨w.heap.size + 1, _, rfl, Hbel.out.trans (hb2.mono (by omega)), by omega, ⟨?_, ?_, Hrow.out.keep (Only.new (S := fun _ => False) hb2) (by simp), ?_⟩, ?_⟩
 ·rw [hW2, World.cell?_alloc_at _ _ _ _ hsz.symm]; rfl
 ·intro j hj
  obtain rfl : j = 0 := by omega
  rw [hW2, World.cell?_alloc_at _ _ _ _ hsz.symm, World.frozen?_alloc_at _ _ _ _ hsz.symm]
  exact ⟨rfl, rfl⟩
 ·simp [Value.ownBlock]
 ·intro b hb; simp [Value.ownBlock] at hb; omega
theorem results_cell1 {fn : Func} {p : Tmp} {ty : TypeId} (h : fn.results = #[.cell p ty]) (tmps : Array Value) (P : Program) (w : World) :
  (results fn tmps).run P w = ((asAddr (tmps.getD p undef)).run P w).andThen fun a w₁ => (loadVar ty a).run P w₁ := by
 simp only [results, h]
 simp [Sem.run_bind, Result.andThen]
def sumS (s c : Int) : Int := ((33 * s) % 4294967296 + c) % 4294967296
def sumF (l : List Int) : Int := l.foldl sumS 5381
def sumB (l : List Int) : List Int := [sumF l / 16777216 % 256, sumF l / 65536 % 256, sumF l / 256 % 256, sumF l % 256]
theorem sumS_lt (s c : Int) : 0 ≤ sumS s c ∧ sumS s c < 4294967296 := by unfold sumS; omega
theorem sumF_lt (l : List Int) : 0 ≤ sumF l ∧ sumF l < 4294967296 := by
 unfold sumF
 rcases List.eq_nil_or_concat l with rfl | ⟨l', x, rfl⟩
 ·simp
 ·simp only [List.concat_eq_append, List.foldl_append, List.foldl_cons, List.foldl_nil]
  exact sumS_lt _ _
theorem sum_any (w : World) (b off cap : Nat) (l : List Int) (hrow : RowAt w b off (byteV l)) (hl : l.length ≤ 2000000000000000) (hv : ∀ c ∈ l, 0 ≤ c ∧ c < 256) :
  Calls Tryz.prog 102 #[.slice (some ⟨b, off, none⟩) l.length cap] w fun e w' => e = .returned (.agg #[.int .u8 (sumF l / 16777216 % 256), .int .u8 (sumF l / 65536 % 256), .int .u8 (sumF l / 256 % 256), .int .u8 (sumF l % 256)]) ∧ Below w.heap.size w w' := by
 have Hrow := hide hrow
 have Hv := hide hv
 clear hrow hv
 go_enter Tryz.func102, Tryz.ntmps102
 go_wp2_with fail
 go_loopg [3, 5, 8] (l.length + 2) (fun g s3 s5 s8 wr => ∃ (i : Nat), s8 = .int .i64 i ∧ s3 = .int .u32 (sumF (l.take i)) ∧ l.length - i + 1 ≤ g ∧ i ≤ l.length ∧ Hid (wr = w.alloc (.cells #[.int .u8 0, .int .u8 0, .int .u8 0, .int .u8 0] 157)))
 case atStart => exact ⟨0, rfl, by simp [sumF], by omega, by omega, rfl⟩
 case round =>
  obtain ⟨i, rfl, rfl, hg, hi, hI⟩ := hrel
  obtain rfl := hI.out
  by_cases hlt : i < l.length
  ·have d1 : decide ((i : Int) < (l.length : Int)) = true := by simp; omega
   have hii : (i : Int) < (l.length : Int) := by omega
   have hw : IntKind.i64.wrap ((i : Int) + 1) = (i : Int) + 1 := by rw [IntKind.wrap_i64]; omega
   have hc := Hrow.out i (.int .u8 l[i]) (by simp [byteV, hlt])
   have hcb := lt_of_cell hc
   have hc' := below_at ((Below.refl w.heap.size w).alloc (Nat.le_refl _) (.cells #[.int .u8 0, .int .u8 0, .int .u8 0, .int .u8 0] 157)) hc hcb
   have hx := Hv.out l[i] (List.getElem_mem hlt)
   have HS : Hid (sumF (l.take (i + 1)) = sumS (sumF (l.take i)) l[i]) := by
    show _ = _
    unfold sumF
    rw [List.take_succ_eq_append_getElem hlt, List.foldl_append]
    rfl
   have hsl := sumF_lt (l.take i)
   generalize sumF (l.take i) = s at HS hsl ⊢
   generalize l[i] = x at hc hc' hx HS
   have w1 : IntKind.u32.wrap (33 * s) = (33 * s) % 4294967296 := by simp [IntKind.wrap, IntKind.bits, IntKind.signed]
   have w2 : IntKind.u32.wrap x = x := by simp [IntKind.wrap, IntKind.bits, IntKind.signed]; omega
   have w3 : IntKind.u32.wrap ((33 * s) % 4294967296 + x) = sumS s x := by simp [IntKind.wrap, IntKind.bits, IntKind.signed, sumS]
   go_wp2_with fail
   go_roundg (l.length - (i + 1) + 1)
   case measure => omega
   case rel => exact ⟨i + 1, by go_num, by rw [HS.out], Nat.le_refl _, by omega, rfl⟩
  ·have d1 : decide ((i : Int) < (l.length : Int)) = false := by simp; omega
   have hq : l.take i = l := List.take_of_length_le (by omega)
   rw [hq]
   have hsl := sumF_lt l
   generalize hss : sumF l = s at hsl ⊢
   have Hss := hide hss
   clear hss
   go_wp2_with fail
   have h24 : s / 16777216 % 256 = s / 16777216 := by omega
   refine bodyPost_ret (v := .agg #[.int .u8 (s / 16777216), .int .u8 (s / 65536 % 256), .int .u8 (s / 256 % 256), .int .u8 (s % 256)]) ?_ rfl ?_
   ·rw [results_cell1 rfl]; simp [go_sem]
   rw [Hss.out, h24]
   exact ⟨rfl, (Below.refl _ _).alloc (Nat.le_refl _) _⟩
theorem step_append_b {P : Program} {w : World} {ops : Array Oper} {o : Oper} {a : Act} {K : Act → World → Prop} {Q : Exit → Act → World → Prop} {E : Prop} (hgd : o.guard = none) (s x : Operand) (t : TypeId)
  (ho : o.op = .call { callee := .builtin .append, args := #[s, x], argTypes := #[t, t] }) (base : Nat) (ht : P.underlying t = some (.slice 5)) (hinfo : (P.info? 5).map (fun i => (i.zero, i.size, i.bytes)) = some (some (.int .u8 0), 1, 1))
  (lv : Value) (l : List Int) (hs : a.eval s = lv) (h : BRow base w lv l) (b off c : Nat) (y : List Int) (hx : a.eval x = .slice (some ⟨b, off, none⟩) y.length c) (hnews : RowAt w b off (byteV y)) (hbytes : l.length + y.length ≤ 140737488355328) (hbase : base ≤ w.heap.size)
  (hK : ∀ v' w', Hid (BRow base w' v' (l ++ y)) → Hid (w.grownBy w' lv.ownBlock) → Hid (v'.ownBlock = lv.ownBlock ∨ v'.ownBlock = some w.heap.size) → K (a.put o.dst v') w') :
  if Region.wanted o (yielded ops a.tmps) = true then Oper.wp P o a w K Q else E := by
 have hw : Region.wanted o (yielded ops a.tmps) = true := by simp [Region.wanted, hgd]
 rw [if_pos hw]
 obtain ⟨i, hi, hz, hsz, hby⟩ := info_parts hinfo
 obtain ⟨v', w', hr, h2, h3, h4⟩ := run_append_b (P := P) base t o.type ht i hi hz hsz hby lv l h ⟨b, off, none⟩ c y (fun j u hu => by rw [Addr.add_lit]; exact hnews j u hu) hbytes hbase
 unfold Oper.wp
 simp [execOp, ho, resolve, invoke, builtin, hs, hx, hr, Result.andThen]
 exact hK v' w' h2 h3 h4
theorem sumB_len (l : List Int) : (sumB l).length = 4 := rfl
theorem sumB_bytes (l : List Int) : ∀ b ∈ sumB l, 0 ≤ b ∧ b < 256 := by
 have := sumF_lt l
 intro b hb
 simp only [sumB, List.mem_cons, List.not_mem_nil, or_false] at hb
 rcases hb with rfl | rfl | rfl | rfl <;> omega
theorem end_any (base wb : Nat) (lv : Value) (l : List Int) (w : World) (h : WrP base w wb lv l) (hb : base ≤ w.heap.size) (hl : l.length ≤ 1000000) (hv : ∀ c ∈ l, 0 ≤ c ∧ c < 256) :
  Calls Tryz.prog 77 #[.pointer (some ⟨wb, 0, none⟩)] w fun e w' => ∃ v, e = .returned v ∧ Only (fun b => some b = lv.ownBlock) w w' ∧ BRow base w' v (l ++ sumB l) := by
 have hc := h.cell
 obtain ⟨g, cap, rfl, hg1, hg2, hrow⟩ := h.row.row
 have H := hide h
 have Hrow := hide hrow
 have hwl := lt_of_cell hc
 have HS := hide (sum_any w g 0 cap l hrow (by omega) hv)
 clear h hrow hv
 go_enter Tryz.func77, Tryz.ntmps77
 go_wp2_with fail
 refine HS.out.mono ?_
 rintro e w1 ⟨rfl, hb1⟩
 have hc1 := below_at hb1 hc hwl
 have hz1 := hb1.size
 have HB1 := hide hb1
 have H1 := hide (H.out.row.keep (Only.new (S := fun _ => False) hb1) (by simp))
 have HsB : Hid (sumB l = [sumF l / 16777216 % 256, sumF l / 65536 % 256, sumF l / 256 % 256, sumF l % 256]) := by show _ = _; rfl
 generalize sumF l / 16777216 % 256 = z0 at HsB ⊢
 generalize sumF l / 65536 % 256 = z1 at HsB ⊢
 generalize sumF l / 256 % 256 = z2 at HsB ⊢
 generalize sumF l % 256 = z3 at HsB ⊢
 clear hb1 HS
 go_wp2_with fail
 obtain ⟨W2, hW2⟩ : ∃ W2, W2 = w1.alloc (.cells #[.int .u8 z0, .int .u8 z1, .int .u8 z2, .int .u8 z3] 157) := ⟨_, rfl⟩
 have hb2 : Below w1.heap.size w1 W2 := by rw [hW2]; exact (Below.refl _ _).alloc (Nat.le_refl _) _
 have hz2 : W2.heap.size = w1.heap.size + 1 := by rw [hW2]; simp
 have HR2 : Hid (RowAt W2.drew w1.heap.size 0 (byteV [z0, z1, z2, z3])) := by
  intro j v hv
  rw [hW2, Nat.zero_add]
  match j, hv with
  | 0, hv => simp [byteV] at hv; subst hv; simp [go_sem]
  | 1, hv => simp [byteV] at hv; subst hv; simp [go_sem]
  | 2, hv => simp [byteV] at hv; subst hv; simp [go_sem]
  | 3, hv => simp [byteV] at hv; subst hv; simp [go_sem]
  | j + 4, hv => simp [byteV] at hv
 have c2 := below_at hb2 hc1 (by omega)
 have HB2 : Hid (Below w.heap.size w W2) := HB1.out.trans (hb2.mono (by omega))
 have H2 : Hid (BRow base W2.drew (.slice (some ⟨g, 0, none⟩) l.length cap) l) := (H1.out.keep (Only.new (S := fun _ => False) hb2) (by simp)).keep (Only.new (S := fun _ => False) (Below.refl _ _).drew) (by simp)
 have hne : ¬ some wb = (Value.slice (some ⟨g, 0, none⟩) l.length cap).ownBlock := H.out.sep
 have Hne := hide hne
 rw [← hW2]
 clear hW2 hb2 hc hc1 hne
 go_region_held3 (fun W' => W'.cell? ⟨wb, 0, none⟩ = some (.slice (some ⟨g, 0, none⟩) l.length cap))
  (first | exact c2 | exact c3)
  (first | (refine step_append_b rfl (.tmp 12) (.tmp 13) 56 rfl base Tryz.underlying56 Tryz.infoU8 _ l rfl H2.out w1.heap.size 0 4 [z0, z1, z2, z3] rfl HR2.out (by simp; omega) (show base ≤ W2.heap.size by omega) ?_; intro v4 w4 hown4 hgr4 hwh4; (have ho4 : Only (fun b => some b = (Value.slice (some ⟨g, 0, none⟩) l.length cap).ownBlock) W2.drew w4 := only_of_grown hgr4.out); (have c3 := ho4.at (w := W2.drew) c2 Hne.out)))
 have hO : Only (fun b => some b = (Value.slice (some ⟨g, 0, none⟩) l.length cap).ownBlock) w w4 := (Only.new HB2.out).trans ((Only.new (Below.refl _ _).drew).trans ho4)
 have HO := hide hO
 clear hO ho4 c3 c2
 go_wp2_with fail
 go_ret
 exact ⟨v4, rfl, HO.out, by rw [HsB.out]; exact hown4.out⟩
def numRF : Nat → Nat → Int → List Int → Int × Nat
 | 0, _, _, _ => (0, 0)
 | _, _, _, [] => (0, 0)
 | f + 1, i, acc, c :: l =>
  if c = 0 ∧ 0 < i then (0, 0)
  else if c < 128 then (acc + c % 128 * 128 ^ i, i + 1)
  else numRF f (i + 1) (acc + c % 128 * 128 ^ i) l
def numR (l : List Int) : Int × Nat := numRF 9 0 0 l
theorem shl_val (i : Nat) (hi : i < 9) (x : Int) (h0 : 0 ≤ x) (h1 : x < 128) : IntKind.i64.wrap (x * 2 ^ (7 * i)) = x * 128 ^ i := by
 have hc : i = 0 ∨ i = 1 ∨ i = 2 ∨ i = 3 ∨ i = 4 ∨ i = 5 ∨ i = 6 ∨ i = 7 ∨ i = 8 := by omega
 rcases hc with rfl | rfl | rfl | rfl | rfl | rfl | rfl | rfl | rfl <;> (rw [IntKind.wrap_i64]; simp; omega)
theorem or_val (i : Nat) (hi : i < 9) (acc x : Int) (ha : 0 ≤ acc) (ha' : acc < 128 ^ i) (h0 : 0 ≤ x) (h1 : x < 128) : bits .or .i64 acc (x * 128 ^ i) = acc + x * 128 ^ i := by
 obtain ⟨a, rfl⟩ := Int.eq_ofNat_of_zero_le ha
 obtain ⟨b, rfl⟩ := Int.eq_ofNat_of_zero_le h0
 have hp : (128 : Int) ^ i = ((2 ^ (7 * i) : Nat) : Int) := by
  rw [Nat.pow_mul]; simp
 rw [hp] at ha' ⊢
 have hpb : 2 ^ (7 * i) ≤ 2 ^ 56 := Nat.pow_le_pow_right (by omega) (by omega)
 have hal : a < 2 ^ (7 * i) := by omega
 have hmul : b * 2 ^ (7 * i) ≤ 127 * 2 ^ 56 := Nat.mul_le_mul (by omega) hpb
 have e1 : ((b : Int) * ((2 ^ (7 * i) : Nat) : Int)) = ((b * 2 ^ (7 * i) : Nat) : Int) := by simp
 rw [e1]
 have hor : a ||| b * 2 ^ (7 * i) = a + b * 2 ^ (7 * i) := by
  have := Nat.two_pow_add_eq_or_of_lt hal b
  rw [Nat.mul_comm (2 ^ (7 * i)) b] at this
  rw [Nat.or_comm, ← this]; omega
 generalize b * 2 ^ (7 * i) = y at hmul hor
 have hy : y ≤ 127 * 72057594037927936 := by simpa using hmul
 have ha2 : a ≤ 72057594037927936 := by have : a < 2 ^ 56 := Nat.lt_of_lt_of_le hal hpb; simp at this; omega
 have h1 : (BitVec.ofInt 64 (a : Int)).toNat = a := by
  rw [BitVec.ofInt_natCast, BitVec.toNat_ofNat]; exact Nat.mod_eq_of_lt (by omega)
 have h2 : (BitVec.ofInt 64 (y : Int)).toNat = y := by
  rw [BitVec.ofInt_natCast, BitVec.toNat_ofNat]; exact Nat.mod_eq_of_lt (by omega)
 show IntKind.i64.wrap ((BitVec.ofInt 64 (a : Int) ||| BitVec.ofInt 64 (y : Int)).toNat : Int) = _
 rw [BitVec.toNat_or, h1, h2, hor, IntKind.wrap_i64]
 omega
theorem numRF_step (l : List Int) (i : Nat) (acc : Int) (hi : i < l.length) (h9 : i < 9) :
  numRF (9 - i) i acc (l.drop i) = if l[i] = 0 ∧ 0 < i then (0, 0) else if l[i] < 128 then (acc + l[i] % 128 * 128 ^ i, i + 1) else numRF (9 - (i + 1)) (i + 1) (acc + l[i] % 128 * 128 ^ i) (l.drop (i + 1)) := by
 rw [List.drop_eq_getElem_cons hi, show 9 - i = (9 - (i + 1)) + 1 by omega, numRF]
theorem numRF_end (l : List Int) (i : Nat) (acc : Int) (h : l.length ≤ i ∨ 9 ≤ i) : numRF (9 - i) i acc (l.drop i) = (0, 0) := by
 rcases h with h | h
 ·rw [List.drop_eq_nil_of_le h]
  cases 9 - i <;> rfl
 ·rw [show 9 - i = 0 by omega]
  rfl
theorem num_any (b off cap : Nat) (l : List Int) (w : World) (hr : RowAt w b off (byteV l)) (hl : l.length ≤ 2000000000000000) (hv : ∀ c ∈ l, 0 ≤ c ∧ c < 256) (hlc : l.length ≤ cap) :
  Calls Tryz.prog 121 #[.slice (some ⟨b, off, none⟩) l.length cap] w fun e w' => e = .returned (.tuple #[.int .i64 (numR l).1, .int .i64 (numR l).2]) ∧ Below w.heap.size w w' := by
 have Hr := hide hr
 have Hv := hide hv
 clear hr hv
 by_cases h9 : l.length ≤ 9
 ·have hm : min (l.length : Int) 9 = (l.length : Int) := by omega
  go_enter Tryz.func121, Tryz.ntmps121
  go_wp2_with fail
  clear hm
  go_loopg [4, 13] 12 (fun g s4 s13 wr => ∃ (i : Nat) (acc : Int), s13 = .int .i64 i ∧ s4 = .int .i64 acc ∧ 9 - i + 1 ≤ g ∧ i ≤ l.length ∧ 0 ≤ acc ∧ Hid (acc < 128 ^ i ∧ numRF (9 - i) i acc (l.drop i) = numR l) ∧ Hid (Below w.heap.size w wr))
  case atStart => exact ⟨0, 0, rfl, rfl, by omega, by omega, by omega, ⟨by simp, by simp [numR]⟩, Below.refl _ _⟩
  case round =>
   obtain ⟨i, acc, rfl, rfl, hg, hi, ha0, hI, hB⟩ := hrel
   by_cases hlt : i < l.length
   ·have hil : i < l.length := by omega
    have d1 : decide ((i : Int) < (l.length : Int)) = true := by simp; omega
    have hii : (i : Int) < (l.length : Int) := by omega
    have hw : IntKind.i64.wrap ((i : Int) + 1) = (i : Int) + 1 := by rw [IntKind.wrap_i64]; omega
    have hw7 : IntKind.i64.wrap (7 * (i : Int)) = 7 * (i : Int) := by rw [IntKind.wrap_i64]; omega
    have hc := Hr.out i (.int .u8 l[i]) (by simp [byteV, hil])
    have hc' := below_at hB.out hc (lt_of_cell hc)
    have hx := Hv.out l[i] (List.getElem_mem hil)
    have HF : Hid (numR l = if l[i] = 0 ∧ 0 < i then (0, 0) else if l[i] < 128 then (acc + l[i] % 128 * 128 ^ i, i + 1) else numRF (9 - (i + 1)) (i + 1) (acc + l[i] % 128 * 128 ^ i) (l.drop (i + 1))) := by
     show _ = _
     rw [← hI.out.2]; exact numRF_step l i acc hil (by omega)
    generalize l[i] = c at hc hc' hx HF
    have hs0 := shl_val i (by omega) (c % 128) (by omega) (by omega)
    have hs1 : wrap64 (c % 128 * 2 ^ (7 * i)) = c % 128 * 128 ^ i := by have := hs0; rw [IntKind.wrap_i64] at this; unfold wrap64; exact this
    have hs2 := or_val i (by omega) acc (c % 128) ha0 hI.out.1 (by omega) (by omega)
    have hnn : 0 ≤ acc + c % 128 * 128 ^ i ∧ acc + c % 128 * 128 ^ i < 128 ^ (i + 1) := by
     have h1 : (0 : Int) < 128 ^ i := Int.pow_pos (by omega)
     have h2 := hI.out.1
     rw [Int.pow_succ]
     generalize (128 : Int) ^ i = X at h1 h2
     have h3 : 0 ≤ c % 128 * X := Int.mul_nonneg (by omega) (by omega)
     have h4 : c % 128 * X ≤ 127 * X := Int.mul_le_mul_of_nonneg_right (by omega) (by omega)
     omega
    have Hnn := hide hnn
    clear hnn hc
    generalize hsh : c % 128 * 128 ^ i = sh at hs0 hs1 hs2 HF Hnn
    have Hsh := hide hsh
    have Hs2 := hide hs2
    clear hsh
    by_cases hc0 : c = 0 ∧ 0 < i
    ·have hq : numR l = (0, 0) := by rw [HF.out, if_pos hc0]
     have Hq := hide hq
     obtain ⟨rfl, hi0⟩ := hc0
     clear hq
     have d2 : decide (0 < (i : Int)) = true := by rw [decide_eq_true_eq]; omega
     go_wp2_with fail
     go_ret2
     exact ⟨by rw [Hq.out]; rfl, hB.out⟩
    ·by_cases hcs : c < 128
     ·have d3 : decide (c < 128) = true := by simpa using hcs
      have hq := HF.out
      rw [if_neg hc0, if_pos hcs] at hq
      have Hq := hide hq
      clear hq
      by_cases hz : c = 0
      ·subst hz
       obtain rfl : i = 0 := by omega
       simp only [Nat.add_zero] at hc'
       have hs3 := Hs2.out
       obtain rfl : sh = 0 := by have := Hsh.out; simp at this; omega
       go_wp2_with fail
       go_ret2
       exact ⟨by rw [Hq.out]; simp, hB.out⟩
      ·have d4 : (c == 0) = false := by rw [beq_eq_false_iff_ne]; exact hz
       go_wp2_with fail
       go_ret2
       exact ⟨by rw [Hq.out]; simp, hB.out⟩
     ·have d3 : decide (c < 128) = false := by simpa using hcs
      have d4 : (c == 0) = false := by rw [beq_eq_false_iff_ne]; omega
      have hq := HF.out
      rw [if_neg hc0, if_neg hcs] at hq
      have Hq := hide hq
      clear hq
      go_wp2_with fail
      go_roundg (9 - (i + 1) + 1)
      case measure => omega
      case rel => exact ⟨i + 1, acc + sh, by go_num, rfl, Nat.le_refl _, by omega, Hnn.out.1, ⟨Hnn.out.2, Hq.out.symm⟩, hB.out⟩
   ·have d1 : decide ((i : Int) < (l.length : Int)) = false := by simp; omega
    have hq : numR l = (0, 0) := by rw [← hI.out.2]; exact numRF_end l i acc (by omega)
    go_wp2_with fail
    go_ret2
    exact ⟨by rw [hq]; rfl, hB.out⟩
 ·have hm : min (l.length : Int) 9 = 9 := by omega
  have hcp : (9 : Int) ≤ (cap : Int) := by omega
  go_enter Tryz.func121, Tryz.ntmps121
  go_wp2_with fail
  clear hm
  go_loopg [4, 13] 12 (fun g s4 s13 wr => ∃ (i : Nat) (acc : Int), s13 = .int .i64 i ∧ s4 = .int .i64 acc ∧ 9 - i + 1 ≤ g ∧ i ≤ 9 ∧ 0 ≤ acc ∧ Hid (acc < 128 ^ i ∧ numRF (9 - i) i acc (l.drop i) = numR l) ∧ Hid (Below w.heap.size w wr))
  case atStart => exact ⟨0, 0, rfl, rfl, by omega, by omega, by omega, ⟨by simp, by simp [numR]⟩, Below.refl _ _⟩
  case round =>
   obtain ⟨i, acc, rfl, rfl, hg, hi, ha0, hI, hB⟩ := hrel
   by_cases hlt : i < 9
   ·have hil : i < l.length := by omega
    have d1 : decide ((i : Int) < (9 : Int)) = true := by simp; omega
    have hii : (i : Int) < (9 : Int) := by omega
    have hw : IntKind.i64.wrap ((i : Int) + 1) = (i : Int) + 1 := by rw [IntKind.wrap_i64]; omega
    have hw7 : IntKind.i64.wrap (7 * (i : Int)) = 7 * (i : Int) := by rw [IntKind.wrap_i64]; omega
    have hc := Hr.out i (.int .u8 l[i]) (by simp [byteV, hil])
    have hc' := below_at hB.out hc (lt_of_cell hc)
    have hx := Hv.out l[i] (List.getElem_mem hil)
    have HF : Hid (numR l = if l[i] = 0 ∧ 0 < i then (0, 0) else if l[i] < 128 then (acc + l[i] % 128 * 128 ^ i, i + 1) else numRF (9 - (i + 1)) (i + 1) (acc + l[i] % 128 * 128 ^ i) (l.drop (i + 1))) := by
     show _ = _
     rw [← hI.out.2]; exact numRF_step l i acc hil (by omega)
    generalize l[i] = c at hc hc' hx HF
    have hs0 := shl_val i (by omega) (c % 128) (by omega) (by omega)
    have hs1 : wrap64 (c % 128 * 2 ^ (7 * i)) = c % 128 * 128 ^ i := by have := hs0; rw [IntKind.wrap_i64] at this; unfold wrap64; exact this
    have hs2 := or_val i (by omega) acc (c % 128) ha0 hI.out.1 (by omega) (by omega)
    have hnn : 0 ≤ acc + c % 128 * 128 ^ i ∧ acc + c % 128 * 128 ^ i < 128 ^ (i + 1) := by
     have h1 : (0 : Int) < 128 ^ i := Int.pow_pos (by omega)
     have h2 := hI.out.1
     rw [Int.pow_succ]
     generalize (128 : Int) ^ i = X at h1 h2
     have h3 : 0 ≤ c % 128 * X := Int.mul_nonneg (by omega) (by omega)
     have h4 : c % 128 * X ≤ 127 * X := Int.mul_le_mul_of_nonneg_right (by omega) (by omega)
     omega
    have Hnn := hide hnn
    clear hnn hc
    generalize hsh : c % 128 * 128 ^ i = sh at hs0 hs1 hs2 HF Hnn
    have Hsh := hide hsh
    have Hs2 := hide hs2
    clear hsh
    by_cases hc0 : c = 0 ∧ 0 < i
    ·have hq : numR l = (0, 0) := by rw [HF.out, if_pos hc0]
     have Hq := hide hq
     obtain ⟨rfl, hi0⟩ := hc0
     clear hq
     have d2 : decide (0 < (i : Int)) = true := by rw [decide_eq_true_eq]; omega
     go_wp2_with fail
     go_ret2
     exact ⟨by rw [Hq.out]; rfl, hB.out⟩
    ·by_cases hcs : c < 128
     ·have d3 : decide (c < 128) = true := by simpa using hcs
      have hq := HF.out
      rw [if_neg hc0, if_pos hcs] at hq
      have Hq := hide hq
      clear hq
      by_cases hz : c = 0
      ·subst hz
       obtain rfl : i = 0 := by omega
       simp only [Nat.add_zero] at hc'
       have hs3 := Hs2.out
       obtain rfl : sh = 0 := by have := Hsh.out; simp at this; omega
       go_wp2_with fail
       go_ret2
       exact ⟨by rw [Hq.out]; simp, hB.out⟩
      ·have d4 : (c == 0) = false := by rw [beq_eq_false_iff_ne]; exact hz
       go_wp2_with fail
       go_ret2
       exact ⟨by rw [Hq.out]; simp, hB.out⟩
     ·have d3 : decide (c < 128) = false := by simpa using hcs
      have d4 : (c == 0) = false := by rw [beq_eq_false_iff_ne]; omega
      have hq := HF.out
      rw [if_neg hc0, if_neg hcs] at hq
      have Hq := hide hq
      clear hq
      go_wp2_with fail
      go_roundg (9 - (i + 1) + 1)
      case measure => omega
      case rel => exact ⟨i + 1, acc + sh, by go_num, rfl, Nat.le_refl _, by omega, Hnn.out.1, ⟨Hnn.out.2, Hq.out.symm⟩, hB.out⟩
   ·have d1 : decide ((i : Int) < (9 : Int)) = false := by simp; omega
    have hq : numR l = (0, 0) := by rw [← hI.out.2]; exact numRF_end l i acc (by omega)
    go_wp2_with fail
    go_ret2
    exact ⟨by rw [hq]; rfl, hB.out⟩
end Go.Proofs.YtndlmgocldckfaaGreat
