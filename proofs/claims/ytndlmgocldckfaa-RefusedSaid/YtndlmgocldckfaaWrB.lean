import Derived.Test.YtndlmgocldckfaaWrA
import Derived.Lib.ConvBytes
namespace Go.Proofs.Ytndlmgocldckfaa
open Go.RowKit
set_option linter.unusedVariables false
set_option linter.unusedSimpArgs false

def strB (s : ByteArray) : List Int := s.data.toList.map fun b => (b.toNat : Int)
theorem strB_length (s : ByteArray) : (strB s).length = s.size := by simp [strB]

theorem bytesWorld_below (w : World) (e : TypeId) (s : ByteArray) : Below w.heap.size w (Lib.bytesWorld w e s) :=
  ⟨rfl, rfl, rfl, by rw [Lib.bytesWorld_size]; omega, fun k hk => Lib.bytesWorld_at_old w e s k hk⟩

theorem bytesWorld_row (w : World) (s : ByteArray) (hs : s.size ≤ 1000) : BRow w.heap.size (Lib.bytesWorld w 5 s) (.slice (some ⟨w.heap.size, 0, none⟩) (strB s).length (grownCap w s.size 0 5)) (strB s) := by
  have hge := grownCap_ge w s.size 0 5
  have hcm : grownCap w s.size 0 5 ≤ maxLen := grownCap_le_maxLen w s.size 0 5 (by simp only [maxLen]; omega)
  have hl := strB_length s
  have hsz : (Lib.bytesCells w 5 s).size = grownCap w s.size 0 5 := by
    simp [Lib.bytesCells]
    have : s.data.size = s.size := rfl
    omega
  refine ⟨w.heap.size, _, _, _, rfl, Nat.le_refl _, Lib.bytesWorld_at_new w 5 s, ?_, by omega, hcm, hsz, ?_⟩
  · intro i hi; simp; omega
  · have : (Lib.bytesCells w 5 s).toList = byteV (strB s) ++ List.replicate (grownCap w s.size 0 5 - s.size) (.int .u8 0) := by
      simp [Lib.bytesCells, byteV, strB, Function.comp_def]
    rw [this, show (strB s).length = (byteV (strB s)).length by simp [byteV]]
    exact List.take_left

set_option maxRecDepth 100000 in
set_option maxHeartbeats 4000000 in
theorem begin_any (w : World) (s : ByteArray) (hs : s.size ≤ 1000) :
    Calls Try.prog 30 #[.string s] w fun e w' => ∃ wb lv, e = .returned (.pointer (some ⟨wb, 0, none⟩)) ∧ Below w.heap.size w w' ∧ w.heap.size ≤ wb ∧ WrP w.heap.size w' wb lv (strB s) ∧ (∀ b, some b = lv.ownBlock → w.heap.size ≤ b) := by
  have hcv := Lib.run_convert_string_bytes (P := Try.prog) w 9 46 5 s Try.underlying9 Try.underlying46 Try.underlying5
  have hrow := bytesWorld_row w s hs
  have hbel := bytesWorld_below w 5 s
  have hsz := Lib.bytesWorld_size w 5 s
  generalize Lib.bytesWorld w 5 s = W1 at hcv hrow hbel hsz
  generalize grownCap w s.size 0 5 = cap at hcv hrow
  rw [strB_length] at hrow
  have Hrow := hide hrow
  have Hbel := hide hbel
  clear hrow hbel
  go_enter Try.func30, Try.ntmps30
  go_wp2_with fail
  go_ret
  obtain ⟨W2, hW2⟩ : ∃ W2, W2 = W1.alloc (.cells #[.slice (some ⟨w.heap.size, 0, none⟩) s.size cap] 113) := ⟨_, rfl⟩
  have hb2 : Below W1.heap.size W1 W2 := by rw [hW2]; exact (Below.refl _ _).alloc (Nat.le_refl _) _
  rw [← hW2]
  refine ⟨w.heap.size + 1, _, rfl, Hbel.out.trans (hb2.mono (by omega)), by omega, ⟨?_, ?_, Hrow.out.keep (Only.new (S := fun _ => False) hb2) (by simp), ?_⟩, ?_⟩
  · rw [hW2, World.cell?_alloc_at _ _ _ _ hsz.symm]; rfl
  · intro j hj
    obtain rfl : j = 0 := by omega
    rw [hW2, World.cell?_alloc_at _ _ _ _ hsz.symm, World.frozen?_alloc_at _ _ _ _ hsz.symm]
    exact ⟨rfl, rfl⟩
  · simp [Value.ownBlock]
  · intro b hb; simp [Value.ownBlock] at hb; omega

theorem results_cell1 {fn : Func} {p : Tmp} {ty : TypeId} (h : fn.results = #[.cell p ty]) (tmps : Array Value) (P : Program) (w : World) :
    (results fn tmps).run P w = ((asAddr (tmps.getD p undef)).run P w).andThen fun a w₁ => (loadVar ty a).run P w₁ := by
  simp only [results, h]
  simp [Sem.run_bind, Result.andThen]

def sumS (s c : Int) : Int := ((33 * s) % 4294967296 + c) % 4294967296
def sumF (l : List Int) : Int := l.foldl sumS 5381
def sumB (l : List Int) : List Int := [sumF l / 16777216 % 256, sumF l / 65536 % 256, sumF l / 256 % 256, sumF l % 256]
theorem sumS_lt (s c : Int) : 0 ≤ sumS s c ∧ sumS s c < 4294967296 := by unfold sumS; omega
theorem sumF_lt (l : List Int) : 0 ≤ sumF l ∧ sumF l < 4294967296 := by
  unfold sumF
  rcases List.eq_nil_or_concat l with rfl | ⟨l', x, rfl⟩
  · simp
  · simp only [List.concat_eq_append, List.foldl_append, List.foldl_cons, List.foldl_nil]
    exact sumS_lt _ _

set_option maxRecDepth 100000 in
set_option maxHeartbeats 4000000 in
theorem sum_any (w : World) (b off cap : Nat) (l : List Int) (hrow : RowAt w b off (byteV l)) (hl : l.length ≤ 2000000000000000) (hv : ∀ c ∈ l, 0 ≤ c ∧ c < 256) :
    Calls Try.prog 53 #[.slice (some ⟨b, off, none⟩) l.length cap] w fun e w' => e = .returned (.agg #[.int .u8 (sumF l / 16777216 % 256), .int .u8 (sumF l / 65536 % 256), .int .u8 (sumF l / 256 % 256), .int .u8 (sumF l % 256)]) ∧ Below w.heap.size w w' := by
  have Hrow := hide hrow
  have Hv := hide hv
  clear hrow hv
  go_enter Try.func53, Try.ntmps53
  go_wp2_with fail
  go_loopg [3, 5, 8] (l.length + 2) (fun g s3 s5 s8 wr => ∃ (i : Nat), s8 = .int .i64 i ∧ s3 = .int .u32 (sumF (l.take i)) ∧ l.length - i + 1 ≤ g ∧ i ≤ l.length ∧ Hid (wr = w.alloc (.cells #[.int .u8 0, .int .u8 0, .int .u8 0, .int .u8 0] 115)))
  case atStart => exact ⟨0, rfl, by simp [sumF], by omega, by omega, rfl⟩
  case round =>
    obtain ⟨i, rfl, rfl, hg, hi, hI⟩ := hrel
    obtain rfl := hI.out
    by_cases hlt : i < l.length
    · have d1 : decide ((i : Int) < (l.length : Int)) = true := by simp; omega
      have hii : (i : Int) < (l.length : Int) := by omega
      have hw : IntKind.i64.wrap ((i : Int) + 1) = (i : Int) + 1 := by rw [IntKind.wrap_i64]; omega
      have hc := Hrow.out i (.int .u8 l[i]) (by simp [byteV, hlt])
      have hcb := lt_of_cell hc
      have hc' := below_at ((Below.refl w.heap.size w).alloc (Nat.le_refl _) (.cells #[.int .u8 0, .int .u8 0, .int .u8 0, .int .u8 0] 115)) hc hcb
      have hx := Hv.out l[i] (List.getElem_mem hlt)
      have HS : Hid (sumF (l.take (i + 1)) = sumS (sumF (l.take i)) l[i]) := by
        show _ = _
        unfold sumF
        rw [List.take_succ_eq_append_getElem hlt, List.foldl_append]
        rfl
      have hsl := sumF_lt (l.take i)
      generalize sumF (l.take i) = s at HS hsl ⊢
      generalize l[i] = x at hc hc' hx HS
      have w1 : IntKind.u32.wrap (33 * s) = (33 * s) % 4294967296 := by simp [IntKind.wrap, IntKind.bits, IntKind.signed]
      have w2 : IntKind.u32.wrap x = x := by simp [IntKind.wrap, IntKind.bits, IntKind.signed]; omega
      have w3 : IntKind.u32.wrap ((33 * s) % 4294967296 + x) = sumS s x := by simp [IntKind.wrap, IntKind.bits, IntKind.signed, sumS]
      go_wp2_with fail
      go_roundg (l.length - (i + 1) + 1)
      case measure => omega
      case rel => exact ⟨i + 1, by go_num, by rw [HS.out], Nat.le_refl _, by omega, rfl⟩
    · have d1 : decide ((i : Int) < (l.length : Int)) = false := by simp; omega
      have hq : l.take i = l := List.take_of_length_le (by omega)
      rw [hq]
      have hsl := sumF_lt l
      generalize hss : sumF l = s at hsl ⊢
      have Hss := hide hss
      clear hss
      go_wp2_with fail
      have h24 : s / 16777216 % 256 = s / 16777216 := by omega
      refine bodyPost_ret (v := .agg #[.int .u8 (s / 16777216), .int .u8 (s / 65536 % 256), .int .u8 (s / 256 % 256), .int .u8 (s % 256)]) ?_ rfl ?_
      · rw [results_cell1 rfl]; simp [go_sem]
      rw [Hss.out, h24]
      exact ⟨rfl, (Below.refl _ _).alloc (Nat.le_refl _) _⟩

theorem step_append_b {P : Program} {w : World} {ops : Array Oper} {o : Oper} {a : Act} {K : Act → World → Prop} {Q : Exit → Act → World → Prop} {E : Prop} (hgd : o.guard = none) (s x : Operand) (t : TypeId)
    (ho : o.op = .call { callee := .builtin .append, args := #[s, x], argTypes := #[t, t] }) (base : Nat) (ht : P.underlying t = some (.slice 5)) (hinfo : (P.info? 5).map (fun i => (i.zero, i.size, i.bytes)) = some (some (.int .u8 0), 1, 1))
    (lv : Value) (l : List Int) (hs : a.eval s = lv) (h : BRow base w lv l) (b off c : Nat) (y : List Int) (hx : a.eval x = .slice (some ⟨b, off, none⟩) y.length c) (hnews : RowAt w b off (byteV y)) (hbytes : l.length + y.length ≤ 140737488355328) (hbase : base ≤ w.heap.size)
    (hK : ∀ v' w', Hid (BRow base w' v' (l ++ y)) → Hid (w.grownBy w' lv.ownBlock) → Hid (v'.ownBlock = lv.ownBlock ∨ v'.ownBlock = some w.heap.size) → K (a.put o.dst v') w') :
    if Region.wanted o (yielded ops a.tmps) = true then Oper.wp P o a w K Q else E := by
  have hw : Region.wanted o (yielded ops a.tmps) = true := by simp [Region.wanted, hgd]
  rw [if_pos hw]
  obtain ⟨i, hi, hz, hsz, hby⟩ := info_parts hinfo
  obtain ⟨v', w', hr, h2, h3, h4⟩ := run_append_b (P := P) base t o.type ht i hi hz hsz hby lv l h ⟨b, off, none⟩ c y (fun j u hu => by rw [Addr.add_lit]; exact hnews j u hu) hbytes hbase
  unfold Oper.wp
  simp [execOp, ho, resolve, invoke, builtin, hs, hx, hr, Result.andThen]
  exact hK v' w' h2 h3 h4

theorem sumB_len (l : List Int) : (sumB l).length = 4 := rfl
theorem sumB_bytes (l : List Int) : ∀ b ∈ sumB l, 0 ≤ b ∧ b < 256 := by
  have := sumF_lt l
  intro b hb
  simp only [sumB, List.mem_cons, List.not_mem_nil, or_false] at hb
  rcases hb with rfl | rfl | rfl | rfl <;> omega

set_option maxRecDepth 100000 in
set_option maxHeartbeats 4000000 in
theorem end_any (base wb : Nat) (lv : Value) (l : List Int) (w : World) (h : WrP base w wb lv l) (hb : base ≤ w.heap.size) (hl : l.length ≤ 1000000) (hv : ∀ c ∈ l, 0 ≤ c ∧ c < 256) :
    Calls Try.prog 32 #[.pointer (some ⟨wb, 0, none⟩)] w fun e w' => ∃ v, e = .returned v ∧ Only (fun b => some b = lv.ownBlock) w w' ∧ BRow base w' v (l ++ sumB l) := by
  have hc := h.cell
  obtain ⟨g, cap, rfl, hg1, hg2, hrow⟩ := h.row.row
  have H := hide h
  have Hrow := hide hrow
  have hwl := lt_of_cell hc
  have HS := hide (sum_any w g 0 cap l hrow (by omega) hv)
  clear h hrow hv
  go_enter Try.func32, Try.ntmps32
  go_wp2_with fail
  refine HS.out.mono ?_
  rintro e w1 ⟨rfl, hb1⟩
  have hc1 := below_at hb1 hc hwl
  have hz1 := hb1.size
  have HB1 := hide hb1
  have H1 := hide (H.out.row.keep (Only.new (S := fun _ => False) hb1) (by simp))
  have HsB : Hid (sumB l = [sumF l / 16777216 % 256, sumF l / 65536 % 256, sumF l / 256 % 256, sumF l % 256]) := by show _ = _; rfl
  generalize sumF l / 16777216 % 256 = z0 at HsB ⊢
  generalize sumF l / 65536 % 256 = z1 at HsB ⊢
  generalize sumF l / 256 % 256 = z2 at HsB ⊢
  generalize sumF l % 256 = z3 at HsB ⊢
  clear hb1 HS
  go_wp2_with fail
  obtain ⟨W2, hW2⟩ : ∃ W2, W2 = w1.alloc (.cells #[.int .u8 z0, .int .u8 z1, .int .u8 z2, .int .u8 z3] 115) := ⟨_, rfl⟩
  have hb2 : Below w1.heap.size w1 W2 := by rw [hW2]; exact (Below.refl _ _).alloc (Nat.le_refl _) _
  have hz2 : W2.heap.size = w1.heap.size + 1 := by rw [hW2]; simp
  have HR2 : Hid (RowAt W2.drew w1.heap.size 0 (byteV [z0, z1, z2, z3])) := by
    intro j v hv
    rw [hW2, Nat.zero_add]
    match j, hv with
    | 0, hv => simp [byteV] at hv; subst hv; simp [go_sem]
    | 1, hv => simp [byteV] at hv; subst hv; simp [go_sem]
    | 2, hv => simp [byteV] at hv; subst hv; simp [go_sem]
    | 3, hv => simp [byteV] at hv; subst hv; simp [go_sem]
    | j + 4, hv => simp [byteV] at hv
  have c2 := below_at hb2 hc1 (by omega)
  have HB2 : Hid (Below w.heap.size w W2) := HB1.out.trans (hb2.mono (by omega))
  have H2 : Hid (BRow base W2.drew (.slice (some ⟨g, 0, none⟩) l.length cap) l) := (H1.out.keep (Only.new (S := fun _ => False) hb2) (by simp)).keep (Only.new (S := fun _ => False) (Below.refl _ _).drew) (by simp)
  have hne : ¬ some wb = (Value.slice (some ⟨g, 0, none⟩) l.length cap).ownBlock := H.out.sep
  have Hne := hide hne
  rw [← hW2]
  clear hW2 hb2 hc hc1 hne
  go_region_held3 (fun W' => W'.cell? ⟨wb, 0, none⟩ = some (.slice (some ⟨g, 0, none⟩) l.length cap))
    (first | exact c2 | exact c3)
    (first | (refine step_append_b rfl (.tmp 12) (.tmp 13) 46 rfl base Try.underlying46 Try.infoU8 _ l rfl H2.out w1.heap.size 0 4 [z0, z1, z2, z3] rfl HR2.out (by simp; omega) (show base ≤ W2.heap.size by omega) ?_; intro v4 w4 hown4 hgr4 hwh4; (have ho4 : Only (fun b => some b = (Value.slice (some ⟨g, 0, none⟩) l.length cap).ownBlock) W2.drew w4 := only_of_grown hgr4.out); (have c3 := ho4.at (w := W2.drew) c2 Hne.out)))
  have hO : Only (fun b => some b = (Value.slice (some ⟨g, 0, none⟩) l.length cap).ownBlock) w w4 := (Only.new HB2.out).trans ((Only.new (Below.refl _ _).drew).trans ho4)
  have HO := hide hO
  clear hO ho4 c3 c2
  go_wp2_with fail
  go_ret
  exact ⟨v4, rfl, HO.out, by rw [HsB.out]; exact hown4.out⟩
end Go.Proofs.Ytndlmgocldckfaa
