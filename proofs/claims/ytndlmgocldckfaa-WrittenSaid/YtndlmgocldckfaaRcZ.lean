import Derived.Test.YtndlmgocldckfaaRcA
import Derived.Test.YtndlmgocldckfaaLeafP
import Derived.Test.YtndlmgocldckfaaWrZ
import Derived.Test.YtndlmgocldckfaaSaZ
import Derived.Test.YtndlmgocldckfaaRdZ
import Derived.Test.YtndlmgocldckfaaQBec
namespace Go.Proofs.Ytndlmgocldckfaa
open Go.RowKit
set_option linter.unusedVariables false
set_option linter.unusedSimpArgs false

theorem valsF_take {l : List Int} {i : Nat} (h : i < l.length) : valsF (l.take (i + 1)) = (valsF (l.take i) && inB l[i] (-1000000000) 1000000000) := by
  unfold valsF
  rw [List.take_succ_eq_append_getElem h, List.all_append]
  simp
theorem valsF_false {l : List Int} {i : Nat} (h : valsF (l.take i) = false) : valsF l = false := by
  unfold valsF at *
  rw [List.all_eq_false] at *
  obtain ⟨x, hx, hp⟩ := h
  exact ⟨x, List.mem_of_mem_take hx, hp⟩

set_option maxRecDepth 100000 in
set_option maxHeartbeats 1000000 in
theorem areVals_any (sa : Option Addr) (cap : Nat) (l : List Int) (w : World) (h : ToldIn w sa l) (hl : l.length ≤ 16) :
    Calls Try.prog 74 #[.slice sa l.length cap] w fun e w' => e = .returned (.bool (valsF l)) ∧ Below w.heap.size w w' := by
  have H := hide h
  clear h
  go_enter Try.func74, Try.ntmps74
  go_wp2_with fail
  go_loopg [7] 20 (fun g s7 wr => ∃ (i : Nat), s7 = .int .i64 i ∧ l.length - i + 2 ≤ g ∧ i ≤ l.length ∧ Hid (wr = w ∧ valsF (l.take i) = true))
  case atStart => exact ⟨0, rfl, by omega, by omega, rfl, by simp [valsF]⟩
  case round =>
    obtain ⟨i, rfl, hg, hi, hI⟩ := hrel
    obtain rfl := hI.out.1
    by_cases hlt : i < l.length
    · have d1 : decide ((i : Int) < (l.length : Int)) = true := by simp; omega
      have hii : (i : Int) < (l.length : Int) := by omega
      have hw : IntKind.i64.wrap ((i : Int) + 1) = (i : Int) + 1 := by rw [IntKind.wrap_i64]; omega
      obtain ⟨g', o', rfl, hc⟩ := H.out i l[i] (List.getElem?_eq_getElem hlt)
      have HV := hide (valsF_take hlt)
      generalize l[i] = x at hc HV
      rcases hx : inB x (-1000000000) 1000000000 with _ | _
      · go_wp2_with (go_at_call 85; refine (isValue_any _ _).mono ?_; rintro e w' ⟨rfl, rfl⟩)
        go_ret
        refine ⟨?_, Below.refl _ _⟩
        rw [valsF_false (i := i + 1) (by rw [HV.out, hx]; simp)]
        rfl
      · go_wp2_with (go_at_call 85; refine (isValue_any _ _).mono ?_; rintro e w' ⟨rfl, rfl⟩)
        go_roundg (l.length - (i + 1) + 2)
        case measure => omega
        case rel => exact ⟨i + 1, by go_num, Nat.le_refl _, by omega, rfl, by rw [HV.out, hx, hI.out.2]; rfl⟩
    · have d1 : decide ((i : Int) < (l.length : Int)) = false := by simp; omega
      have hq : l.take i = l := List.take_of_length_le (by omega)
      have hv := hI.out.2
      rw [hq] at hv
      go_wp2_with fail
      go_ret
      exact ⟨rfl, Below.refl _ _⟩

set_option maxRecDepth 100000 in
set_option maxHeartbeats 1000000 in
theorem isRec_any (r : Rec) (sa : Option Addr) (sc : Nat) (ahead : Int) (w : World) (h : ToldIn w sa r.told) :
    Calls Try.prog 58 #[.agg #[.int .i64 r.e.number, .int .i64 r.e.time, .int .i64 r.e.kind, .int .i64 r.e.entity, .slice sa r.told.length sc], .int .i64 ahead] w fun e w' => e = .returned (.bool (recOkF ahead r)) ∧ Below w.heap.size w w' := by
  have H := hide h
  have HF : Hid (recOkF ahead r = (inB r.e.number 0 1000000000 && (inB r.e.time ahead 1000000000000 && (inB r.e.kind 0 7 && (inB r.e.entity 0 7 && (decide (r.told.length ≤ 16) && valsF r.told)))))) := by show _ = _; rfl
  have hA : Below w.heap.size w (w.alloc (.cells #[.int .i64 r.e.number, .int .i64 r.e.time, .int .i64 r.e.kind, .int .i64 r.e.entity, .slice sa r.told.length sc] 36)) := (Below.refl _ _).alloc (Nat.le_refl _) _
  have HA := hide hA
  clear h hA
  rcases b1 : inB r.e.number 0 1000000000 with _ | _
  case false =>
    have hf : recOkF ahead r = false := by rw [HF.out, b1]; rfl
    rw [hf]
    go_enter Try.func58, Try.ntmps58
    go_wp2_with (go_at_call 61; refine (within_any _ _ _ _).mono ?_; rintro e w' ⟨rfl, rfl⟩)
    go_ret
    exact ⟨rfl, HA.out⟩
  rcases b2 : inB r.e.time ahead 1000000000000 with _ | _
  case false =>
    have hf : recOkF ahead r = false := by rw [HF.out, b1, b2]; rfl
    rw [hf]
    go_enter Try.func58, Try.ntmps58
    go_wp2_with (go_at_call 61; refine (within_any _ _ _ _).mono ?_; rintro e w' ⟨rfl, rfl⟩)
    go_ret
    exact ⟨rfl, HA.out⟩
  rcases b3 : inB r.e.kind 0 7 with _ | _
  case false =>
    have hf : recOkF ahead r = false := by rw [HF.out, b1, b2, b3]; rfl
    rw [hf]
    go_enter Try.func58, Try.ntmps58
    go_wp2_with (go_at_call 61; refine (within_any _ _ _ _).mono ?_; rintro e w' ⟨rfl, rfl⟩)
    go_ret
    exact ⟨rfl, HA.out⟩
  rcases b4 : inB r.e.entity 0 7 with _ | _
  case false =>
    have hf : recOkF ahead r = false := by rw [HF.out, b1, b2, b3, b4]; rfl
    rw [hf]
    go_enter Try.func58, Try.ntmps58
    go_wp2_with (go_at_call 61; refine (within_any _ _ _ _).mono ?_; rintro e w' ⟨rfl, rfl⟩)
    go_ret
    exact ⟨rfl, HA.out⟩
  by_cases h5 : r.told.length ≤ 16
  · have d5 : decide ((r.told.length : Int) ≤ 16) = true := by simp; omega
    have hf : recOkF ahead r = valsF r.told := by rw [HF.out, b1, b2, b3, b4]; simp [h5]
    rw [hf]
    have HV := hide (areVals_any sa sc r.told _ (H.out.below HA.out) h5)
    go_enter Try.func58, Try.ntmps58
    go_wp2_with (first | (go_at_call 61; refine (within_any _ _ _ _).mono ?_; rintro e w' ⟨rfl, rfl⟩) | (go_at_call 74; refine HV.out.mono ?_; rintro e w' ⟨rfl, hb'⟩))
    go_ret
    exact ⟨rfl, HA.out.trans (hb'.mono HA.out.size)⟩
  · have d5 : decide ((r.told.length : Int) ≤ 16) = false := by simp; omega
    have hf : recOkF ahead r = false := by rw [HF.out, b1, b2, b3, b4]; simp [h5]
    rw [hf]
    go_enter Try.func58, Try.ntmps58
    go_wp2_with (go_at_call 61; refine (within_any _ _ _ _).mono ?_; rintro e w' ⟨rfl, rfl⟩)
    go_ret
    exact ⟨rfl, HA.out⟩

theorem recsOkF_take : ∀ (rs : List Rec) (ahead : Int) (i : Nat), recsOkF ahead (rs.take i) = false → recsOkF ahead rs = false
  | [], _, _, h => by simp [recsOkF] at h
  | r :: rs, ahead, 0, h => by simp [recsOkF] at h
  | r :: rs, ahead, i + 1, h => by
    simp only [List.take_succ_cons, recsOkF, Bool.and_eq_false_iff] at h ⊢
    rcases h with h | h
    · exact .inl h
    · exact .inr (recsOkF_take rs _ i h)
/-- The time behind so many of them. -/
def recT : Int → List Rec → Int
  | t, [] => t
  | _, r :: rs => recT r.e.time rs
theorem recT_snoc : ∀ (rs : List Rec) (t : Int) (r : Rec), recT t (rs ++ [r]) = r.e.time
  | [], _, _ => rfl
  | x :: rs, t, r => recT_snoc rs x.e.time r
theorem recsOkF_snoc : ∀ (rs : List Rec) (t : Int) (r : Rec), recsOkF t (rs ++ [r]) = (recsOkF t rs && recOkF (recT t rs) r)
  | [], t, r => by simp [recsOkF, recT]
  | x :: rs, t, r => by simp [recsOkF, recT, recsOkF_snoc rs x.e.time r, Bool.and_assoc]

set_option maxRecDepth 100000 in
set_option maxHeartbeats 1000000 in
theorem areRecs_any (a : Option Addr) (cap : Nat) (rs : List Rec) (w : World) (h : RecIn w a rs) (hl : rs.length ≤ 1000000000000000) :
    Calls Try.prog 35 #[.slice a rs.length cap] w fun e w' => e = .returned (.bool (areF rs)) ∧ Below w.heap.size w w' := by
  have H := hide h
  clear h
  by_cases h1000 : rs.length ≤ 1000
  rotate_left
  · have d1 : decide (1000 < (rs.length : Int)) = true := by simp; omega
    have hf : areF rs = false := by simp [areF, h1000]
    rw [hf]
    go_enter Try.func35, Try.ntmps35
    go_wp2_with fail
    go_ret
    exact ⟨rfl, Below.refl _ _⟩
  have d1 : decide (1000 < (rs.length : Int)) = false := by simp; omega
  have hf : areF rs = recsOkF 0 rs := by simp [areF, h1000]
  rw [hf]
  go_enter Try.func35, Try.ntmps35
  go_wp2_with fail
  go_loopg [3, 11] (rs.length + 3) (fun g s3 s11 wr => ∃ (i : Nat), s11 = .int .i64 i ∧ s3 = .int .i64 (recT 0 (rs.take i)) ∧ rs.length - i + 2 ≤ g ∧ i ≤ rs.length ∧ Hid (Below w.heap.size w wr ∧ recsOkF 0 (rs.take i) = true))
  case atStart => exact ⟨0, rfl, rfl, by omega, by omega, Below.refl _ _, by simp [recsOkF]⟩
  case round =>
    obtain ⟨i, rfl, rfl, hg, hi, hI⟩ := hrel
    by_cases hlt : i < rs.length
    · have d2 : decide ((i : Int) < (rs.length : Int)) = true := by simp; omega
      have hii : (i : Int) < (rs.length : Int) := by omega
      have hw : IntKind.i64.wrap ((i : Int) + 1) = (i : Int) + 1 := by rw [IntKind.wrap_i64]; omega
      obtain ⟨b, off, sa, sc, rfl, c0, c1, c2, c3, c4, ct⟩ := (H.out.below hI.out.1) i rs[i] (List.getElem?_eq_getElem hlt)
      have HT : Hid (recsOkF 0 (rs.take (i + 1)) = recOkF (recT 0 (rs.take i)) rs[i]) := by
        show _ = _
        rw [List.take_succ_eq_append_getElem hlt, recsOkF_snoc, hI.out.2, Bool.true_and]
      have HL : Hid (recT 0 (rs.take (i + 1)) = rs[i].e.time) := by
        show _ = _
        rw [List.take_succ_eq_append_getElem hlt, recT_snoc]
      have Hct := hide ct
      generalize rs[i] = r at c0 c1 c2 c3 c4 Hct HT HL
      obtain ⟨⟨rt, rn, rk, re⟩, told⟩ := r
      simp only at c0 c1 c2 c3 c4 Hct HL
      generalize recT 0 (rs.take i) = t at HT ⊢
      clear ct
      obtain ⟨W1, hW1⟩ : ∃ W1, W1 = wr.alloc (.cells #[.int .i64 rn, .int .i64 rt, .int .i64 rk, .int .i64 re, .slice sa told.length sc] 36) := ⟨_, rfl⟩
      have hb1 : Below wr.heap.size wr W1 := by rw [hW1]; exact (Below.refl _ _).alloc (Nat.le_refl _) _
      have hz1 : W1.heap.size = wr.heap.size + 1 := by rw [hW1]; simp
      have x1 : W1.cell? ⟨wr.heap.size, 1, none⟩ = some (.int .i64 rt) := by rw [hW1]; simp [go_sem]
      have HR := hide (isRec_any ⟨⟨rt, rn, rk, re⟩, told⟩ sa sc t W1 (Hct.out.below hb1))
      have hb0 := hI.out.1.trans (hb1.mono hI.out.1.size)
      have HB0 := hide hb0
      clear hb1 hb0
      go_wp2_with fail
      rw [← hW1]
      refine HR.out.mono ?_
      rintro e w2 ⟨rfl, hb2⟩
      have y1 := below_at hb2 x1 (by omega)
      have HB2 : Hid (Below w.heap.size w w2) := HB0.out.trans (hb2.mono HB0.out.size)
      clear hb2 hW1 x1 c0 c1 c2 c3 c4 HR
      generalize hok : recOkF t ⟨⟨rt, rn, rk, re⟩, told⟩ = ok at HT
      rcases ok with _ | _
      · go_wp2_with fail
        go_ret
        exact ⟨by rw [recsOkF_take rs 0 (i + 1) HT.out]; rfl, HB2.out⟩
      · go_wp2_with fail
        go_roundg (rs.length - (i + 1) + 2)
        case measure => omega
        case rel => exact ⟨i + 1, by go_num, by rw [HL.out], Nat.le_refl _, by omega, HB2.out, HT.out⟩
    · have d2 : decide ((i : Int) < (rs.length : Int)) = false := by simp; omega
      have hq : rs.take i = rs := List.take_of_length_le (by omega)
      have hv := hI.out.2
      rw [hq] at hv
      go_wp2_with fail
      go_ret
      exact ⟨by first | rfl | rw [hv]; rfl, hI.out.1⟩
end Go.Proofs.Ytndlmgocldckfaa

namespace Go.Proofs.Ytndlmgocldckfaa
open Go.RowKit
set_option linter.unusedVariables false
set_option linter.unusedSimpArgs false

/-! Records as bytes. -/

def recOne (t : Int) (r : Rec) : List Int := numB (r.e.time - t) ++ (numB r.e.number ++ (numB r.e.kind ++ (numB r.e.entity ++ (numB (r.told.length : Int) ++ r.told.flatMap sgnB))))
def recB : Int → List Rec → List Int
  | _, [] => []
  | t, r :: rs => recOne t r ++ recB r.e.time rs
theorem recB_snoc : ∀ (rs : List Rec) (t : Int) (r : Rec), recB t (rs ++ [r]) = recB t rs ++ recOne (recT t rs) r
  | [], t, r => by simp [recB, recT]
  | x :: rs, t, r => by simp [recB, recT, recB_snoc rs x.e.time r]
theorem sgnB_len (n : Int) : (sgnB n).length ≤ 10 := numB_len _
theorem toldB_len (l : List Int) : (l.flatMap sgnB).length ≤ 10 * l.length := by
  induction l with
  | nil => simp
  | cons x l ih => have := sgnB_len x; simp at ih ⊢; omega
theorem recOne_len (t : Int) (r : Rec) : (recOne t r).length ≤ 50 + 10 * r.told.length := by
  have h1 := numB_len (r.e.time - t)
  have h2 := numB_len r.e.number
  have h3 := numB_len r.e.kind
  have h4 := numB_len r.e.entity
  have h5 := numB_len (r.told.length : Int)
  have h6 := toldB_len r.told
  simp only [recOne, List.length_append]
  omega
theorem recB_len : ∀ (rs : List Rec) (t : Int), (∀ r ∈ rs, r.told.length ≤ 16) → (recB t rs).length ≤ 210 * rs.length
  | [], t, _ => by simp [recB]
  | r :: rs, t, h => by
    have h1 := recOne_len t r
    have h2 := h r (List.mem_cons_self ..)
    have h3 := recB_len rs r.e.time (fun x hx => h x (List.mem_cons_of_mem _ hx))
    simp only [recB, List.length_append, List.length_cons]
    omega

/-- What recsOkF says of each. -/
structure RecOk (r : Rec) : Prop where
  num : 0 ≤ r.e.number ∧ r.e.number ≤ 1000000000
  time : r.e.time ≤ 1000000000000
  kind : 0 ≤ r.e.kind ∧ r.e.kind ≤ 7
  ent : 0 ≤ r.e.entity ∧ r.e.entity ≤ 7
  len : r.told.length ≤ 16
  vals : ∀ n ∈ r.told, -1000000000 ≤ n ∧ n ≤ 1000000000

theorem recOkF_iff {t : Int} {r : Rec} (h : recOkF t r = true) : RecOk r ∧ t ≤ r.e.time := by
  simp only [recOkF, inB, valsF, Bool.and_eq_true, decide_eq_true_eq, List.all_eq_true] at h
  obtain ⟨h1, h2, h3, h4, h5, h6⟩ := h
  exact ⟨⟨h1, h2.2, h3, h4, h5, h6⟩, h2.1⟩
theorem recsOkF_at : ∀ (rs : List Rec) (t : Int) (i : Nat) (hi : i < rs.length), recsOkF t rs = true → RecOk rs[i] ∧ recT t (rs.take i) ≤ rs[i].e.time
  | r :: rs, t, 0, hi, h => by
    simp only [recsOkF, Bool.and_eq_true] at h
    simpa [recT] using recOkF_iff h.1
  | r :: rs, t, i + 1, hi, h => by
    simp only [recsOkF, Bool.and_eq_true] at h
    simpa [recT] using recsOkF_at rs r.e.time i (by simpa using hi) h.2
theorem recsOkF_mem {rs : List Rec} {t : Int} (h : recsOkF t rs = true) : ∀ r ∈ rs, RecOk r := by
  intro r hr
  obtain ⟨i, hi, rfl⟩ := List.mem_iff_getElem.1 hr
  exact (recsOkF_at rs t i hi h).1
theorem recT_ge : ∀ (rs : List Rec) (t : Int), recsOkF t rs = true → t ≤ recT t rs
  | [], t, _ => Int.le_refl _
  | r :: rs, t, h => by
    simp only [recsOkF, Bool.and_eq_true] at h
    have h1 := (recOkF_iff h.1).2
    have h2 := recT_ge rs r.e.time h.2
    simp only [recT]
    omega
theorem recsOkF_take_true : ∀ (rs : List Rec) (t : Int) (i : Nat), recsOkF t rs = true → recsOkF t (rs.take i) = true := by
  intro rs t i h
  rcases hx : recsOkF t (rs.take i) with _ | _
  · rw [recsOkF_take rs t i hx] at h; cases h
  · rfl

/-- A variable that holds a record. -/
structure RecVar (w : World) (V : Nat) (e : Ev) (sv : Value) : Prop where
  c0 : w.cell? ⟨V, 0, none⟩ = some (.int .i64 e.number)
  c1 : w.cell? ⟨V, 1, none⟩ = some (.int .i64 e.time)
  c2 : w.cell? ⟨V, 2, none⟩ = some (.int .i64 e.kind)
  c3 : w.cell? ⟨V, 3, none⟩ = some (.int .i64 e.entity)
  c4 : w.cell? ⟨V, 4, none⟩ = some sv
theorem RecVar.stay {a b : World} {wb V : Nat} {lv lv1 sv : Value} {e : Ev} (h : RecVar a V e sv) (k : Stay a wb lv b lv1) (hap : Apart a wb lv V) : RecVar b V e sv :=
  ⟨k.at hap h.c0, k.at hap h.c1, k.at hap h.c2, k.at hap h.c3, k.at hap h.c4⟩
theorem RecVar.below {a b : World} {V : Nat} {sv : Value} {e : Ev} (h : RecVar a V e sv) (k : Below a.heap.size a b) : RecVar b V e sv :=
  ⟨below_at k h.c0 (lt_of_cell h.c0), below_at k h.c1 (lt_of_cell h.c1), below_at k h.c2 (lt_of_cell h.c2), below_at k h.c3 (lt_of_cell h.c3), below_at k h.c4 (lt_of_cell h.c4)⟩
theorem RecVar.new (w : World) (e : Ev) (sv : Value) (T : TypeId) : RecVar (w.alloc (.cells #[.int .i64 e.number, .int .i64 e.time, .int .i64 e.kind, .int .i64 e.entity, sv] T)) w.heap.size e sv := by
  constructor <;> simp [go_sem]

/-- A writer beside such a variable. -/
structure WrV (w wr : World) (wb : Nat) (lv : Value) (l : List Int) (V : Nat) (e : Ev) (sv : Value) : Prop where
  s : SvR w wr wb lv l
  ap : Apart wr wb lv V
  var : RecVar wr V e sv
theorem WrV.num {w wr : World} {wb : Nat} {lv : Value} {l : List Int} {V : Nat} {e : Ev} {sv : Value} (n : Int) (h : WrV w wr wb lv l V e sv) (hl : l.length ≤ 1000000) (hn : 0 ≤ n ∧ n ≤ 9223372036854775807) :
    Calls Try.prog 50 #[.pointer (some ⟨wb, 0, none⟩), .int .i64 n] wr fun ed w' => ed = .returned (.tuple #[]) ∧ ∃ lv', WrV w w' wb lv' (l ++ numB n) V e sv :=
  (sNum n h.s hl hn).mono (by rintro e w' ⟨rfl, lv', h1, h2⟩; exact ⟨rfl, lv', h1, (h2 _ h.ap).1, h.var.stay h2 h.ap⟩)
theorem WrV.sgn {w wr : World} {wb : Nat} {lv : Value} {l : List Int} {V : Nat} {e : Ev} {sv : Value} (n : Int) (h : WrV w wr wb lv l V e sv) (hl : l.length ≤ 1000000) (hn : -1000000000 ≤ n ∧ n ≤ 1000000000) :
    Calls Try.prog 51 #[.pointer (some ⟨wb, 0, none⟩), .int .i64 n] wr fun ed w' => ed = .returned (.tuple #[]) ∧ ∃ lv', WrV w w' wb lv' (l ++ sgnB n) V e sv :=
  (sSgn n h.s hl hn).mono (by rintro e w' ⟨rfl, lv', h1, h2⟩; exact ⟨rfl, lv', h1, (h2 _ h.ap).1, h.var.stay h2 h.ap⟩)

set_option maxRecDepth 100000 in
set_option maxHeartbeats 4000000 in
theorem writeRecs_any (a : Option Addr) (cap : Nat) (rs : List Rec) (w wr : World) (wb : Nat) (lv : Value) (l : List Int) (h : RecIn w a rs) (hok : recsOkF 0 rs = true) (hn : rs.length ≤ 1000) (hS : SvR w wr wb lv l) (hl : l.length ≤ 100) :
    Calls Try.prog 36 #[.pointer (some ⟨wb, 0, none⟩), .slice a rs.length cap] wr fun e w' => e = .returned (.tuple #[]) ∧ ∃ lv', SvR w w' wb lv' (l ++ (numB rs.length ++ recB 0 rs)) := by
  have H := hide h
  have HS := hide hS
  have Hok := hide hok
  clear h hS hok
  go_enter Try.func36, Try.ntmps36
  go_wp2_with fail
  refine (sNum (rs.length : Int) HS.out (by omega) (by omega)).mono ?_
  rintro e w2 ⟨rfl, lv2, hS2, _⟩
  have HS2 := hide hS2
  have n1 := numB_len (rs.length : Int)
  clear hS2
  go_wp2_with fail
  go_loopg [4, 15] (rs.length + 3) (fun g s4 s15 wr => ∃ (i : Nat) (lvi : Value), s15 = .int .i64 i ∧ s4 = .int .i64 (recT 0 (rs.take i)) ∧ rs.length - i + 2 ≤ g ∧ i ≤ rs.length ∧ Hid (SvR w wr wb lvi ((l ++ numB rs.length) ++ recB 0 (rs.take i))))
  case atStart => exact ⟨0, lv2, rfl, rfl, by omega, by omega, show SvR _ _ _ _ _ by simpa [recB] using HS2.out⟩
  case round =>
    rename World => wo
    obtain ⟨i, lvi, rfl, rfl, hg, hi, hI⟩ := hrel
    by_cases hlt : i < rs.length
    · have d1 : decide ((i : Int) < (rs.length : Int)) = true := by simp; omega
      have hii : (i : Int) < (rs.length : Int) := by omega
      have hw : IntKind.i64.wrap ((i : Int) + 1) = (i : Int) + 1 := by rw [IntKind.wrap_i64]; omega
      obtain ⟨b, off, sa, sc, rfl, c0, c1, c2, c3, c4, ct⟩ := H.out i rs[i] (List.getElem?_eq_getElem hlt)
      replace c0 := below_at hI.out.below c0 (lt_of_cell c0)
      replace c1 := below_at hI.out.below c1 (lt_of_cell c1)
      replace c2 := below_at hI.out.below c2 (lt_of_cell c2)
      replace c3 := below_at hI.out.below c3 (lt_of_cell c3)
      replace c4 := below_at hI.out.below c4 (lt_of_cell c4)
      obtain ⟨hro, hrt⟩ := recsOkF_at rs 0 i hlt Hok.out
      have hge := recT_ge _ 0 (recsOkF_take_true rs 0 i Hok.out)
      have hbl : ((l ++ numB rs.length) ++ recB 0 (rs.take i)).length ≤ 500000 := by
        have := recB_len (rs.take i) 0 (fun r hr => (recsOkF_mem Hok.out r (List.mem_of_mem_take hr)).len)
        simp only [List.length_append, List.length_take] at this ⊢
        omega
      have HT : Hid (((l ++ numB rs.length) ++ recB 0 (rs.take i)) ++ recOne (recT 0 (rs.take i)) rs[i] = (l ++ numB rs.length) ++ recB 0 (rs.take (i + 1))) := by
        show _ = _
        rw [List.take_succ_eq_append_getElem hlt, recB_snoc, List.append_assoc]
      have HL : Hid (recT 0 (rs.take (i + 1)) = rs[i].e.time) := by
        show _ = _
        rw [List.take_succ_eq_append_getElem hlt, recT_snoc]
      have Hct := hide ct
      have HI := hide hI.out
      generalize hbs : (l ++ numB rs.length) ++ recB 0 (rs.take i) = bs at HI HT hbl
      generalize rs[i] = r at c0 c1 c2 c3 c4 Hct HT HL hro hrt
      obtain ⟨⟨rt, rn, rk, re⟩, told⟩ := r
      obtain ⟨o1, o2, o3, o4, o5, o6⟩ := hro
      simp only at c0 c1 c2 c3 c4 Hct HL hrt o1 o2 o3 o4 o5 o6
      generalize recT 0 (rs.take i) = t at HT hrt hge ⊢
      have hws : IntKind.i64.wrap (rt - t) = rt - t := by rw [IntKind.wrap_i64]; omega
      obtain ⟨W1, hW1⟩ : ∃ W1, W1 = wo.alloc (.cells #[.int .i64 rn, .int .i64 rt, .int .i64 rk, .int .i64 re, .slice sa told.length sc] 36) := ⟨_, rfl⟩
      have hb1 : Below wo.heap.size wo W1 := by rw [hW1]; exact (Below.refl _ _).alloc (Nat.le_refl _) _
      have hz1 : W1.heap.size = wo.heap.size + 1 := by rw [hW1]; simp
      have HV1 : Hid (WrV w W1 wb lvi bs wo.heap.size ⟨rt, rn, rk, re⟩ (.slice sa told.length sc)) := by
        refine ⟨HI.out.bel hb1, ⟨by omega, ?_, ?_⟩, ?_⟩
        · have := lt_of_cell HI.out.wr.cell; omega
        · intro hc; have := (HI.out.wr.row.lt _ hc).2; omega
        · rw [hW1]; exact RecVar.new wo ⟨rt, rn, rk, re⟩ _ _
      clear ct hbs hb1 hI
      have n1 := numB_len (rt - t)
      have n2 := numB_len rn
      have n3 := numB_len rk
      have n4 := numB_len re
      have n5 := numB_len (told.length : Int)
      have n6 := toldB_len told
      have HR : Hid (recOne t ⟨⟨rt, rn, rk, re⟩, told⟩ = numB (rt - t) ++ (numB rn ++ (numB rk ++ (numB re ++ (numB (told.length : Int) ++ told.flatMap sgnB))))) := by show _ = _; rfl
      go_wp2_with fail
      rw [← hW1]
      clear hW1 c0 c1 c2 c3 c4
      generalize wo.heap.size = V at HV1 hz1 ⊢
      refine (HV1.out.num (rt - t) (by omega) (by omega)).mono ?_
      rintro e w2 ⟨rfl, lv2, h2⟩
      have HV2 := hide h2
      have x0 := h2.var.c0
      simp only at x0
      clear h2
      go_wp2_with fail
      refine (HV2.out.num rn (by simp; omega) (by omega)).mono ?_
      rintro e w3 ⟨rfl, lv3, h3⟩
      have HV3 := hide h3
      have x2 := h3.var.c2
      simp only at x2
      clear h3 x0
      go_wp2_with fail
      refine (HV3.out.num rk (by simp; omega) (by omega)).mono ?_
      rintro e w4 ⟨rfl, lv4, h4⟩
      have HV4 := hide h4
      have x3 := h4.var.c3
      simp only at x3
      clear h4 x2
      go_wp2_with fail
      refine (HV4.out.num re (by simp; omega) (by omega)).mono ?_
      rintro e w5 ⟨rfl, lv5, h5⟩
      have HV5 := hide h5
      have x4 := h5.var.c4
      clear h5 x3
      go_wp2_with fail
      refine (HV5.out.num (told.length : Int) (by simp; omega) (by omega)).mono ?_
      rintro e w6 ⟨rfl, lv6, h6⟩
      have x5 := h6.var.c4
      obtain ⟨b6, hb6⟩ : ∃ b6, b6 = bs ++ numB (rt - t) ++ numB rn ++ numB rk ++ numB re ++ numB (told.length : Int) := ⟨_, rfl⟩
      have HV6 : Hid (WrV w w6 wb lv6 b6 V ⟨rt, rn, rk, re⟩ (.slice sa told.length sc)) := by rw [hb6]; exact h6
      have hb6l : b6.length ≤ 600000 := by rw [hb6]; simp; omega
      have HB6 : Hid (bs ++ recOne t ⟨⟨rt, rn, rk, re⟩, told⟩ = b6 ++ told.flatMap sgnB) := by
        show _ = _
        rw [HR.out, hb6]
        simp
      clear h6 x4 hb6 HV1 HV2 HV3 HV4 HV5
      go_wp2_with fail
      clear x5
      go_loopg [45] 20 (fun g s45 wr => ∃ (k : Nat) (lvk : Value), s45 = .int .i64 k ∧ told.length - k + 2 ≤ g ∧ k ≤ told.length ∧ Hid (WrV w wr wb lvk (b6 ++ (told.take k).flatMap sgnB) V ⟨rt, rn, rk, re⟩ (.slice sa told.length sc)))
      case atStart => exact ⟨0, lv6, rfl, by omega, by omega, show WrV _ _ _ _ _ _ _ _ by simpa using HV6.out⟩
      case round =>
        obtain ⟨k, lvk, rfl, hg2, hk, hK⟩ := hrel
        by_cases hkl : k < told.length
        · have g1 : decide ((k : Int) < (told.length : Int)) = true := by simp; omega
          have hkk : (k : Int) < (told.length : Int) := by omega
          have hw2 : IntKind.i64.wrap ((k : Int) + 1) = (k : Int) + 1 := by rw [IntKind.wrap_i64]; omega
          obtain ⟨g', o', rfl, hgc⟩ := Hct.out k told[k] (List.getElem?_eq_getElem hkl)
          have gc := below_at hK.out.s.below hgc (lt_of_cell hgc)
          have hvk := o6 told[k] (List.getElem_mem hkl)
          have HK : Hid (told.take (k + 1) = told.take k ++ [told[k]]) := List.take_succ_eq_append_getElem hkl
          have hkn : (b6 ++ (told.take k).flatMap sgnB).length ≤ 700000 := by
            have := toldB_len (told.take k)
            simp only [List.length_append, List.length_take] at this ⊢
            omega
          generalize told[k] = tv at gc hvk HK
          clear hgc
          go_wp2_with fail
          refine (hK.out.sgn tv (by omega) (by omega)).mono ?_
          rintro e w7 ⟨rfl, lv7, h7⟩
          have HV7 := hide h7
          clear h7
          go_wp2_with fail
          go_roundg (told.length - (k + 1) + 2)
          case measure => omega
          case rel => exact ⟨k + 1, lv7, by go_num, Nat.le_refl _, by omega, show WrV _ _ _ _ _ _ _ _ by rw [HK.out]; simpa using HV7.out⟩
        · have g1 : decide ((k : Int) < (told.length : Int)) = false := by simp; omega
          have hq : told.take k = told := List.take_of_length_le (by omega)
          have HF : Hid (WrV w wr wb lvk (b6 ++ told.flatMap sgnB) V ⟨rt, rn, rk, re⟩ (.slice sa told.length sc)) := by
            have := hK.out
            rw [hq] at this
            exact this
          have y1 := HF.out.var.c1
          simp only at y1
          clear hK
          go_wp2_with fail
          go_roundg (rs.length - (i + 1) + 2)
          case measure => omega
          case rel => exact ⟨i + 1, lvk, by go_num, by rw [HL.out], Nat.le_refl _, by omega, show SvR _ _ _ _ _ by rw [← HT.out, HB6.out]; exact HF.out.s⟩
    · have d1 : decide ((i : Int) < (rs.length : Int)) = false := by simp; omega
      have hq : rs.take i = rs := List.take_of_length_le (by omega)
      have hv := hI.out
      rw [hq] at hv
      go_wp2_with fail
      go_end0
      exact ⟨rfl, lvi, by rw [← List.append_assoc]; exact hv⟩
end Go.Proofs.Ytndlmgocldckfaa

namespace Go.Proofs.Ytndlmgocldckfaa
open Go.RowKit
set_option linter.unusedVariables false
set_option linter.unusedSimpArgs false

/-! Encode. -/

def encT (rs : List Rec) : List Int := numB rs.length ++ recB 0 rs
def encH (rs : List Rec) : List Int := [84, 77, 82, 1] ++ encT rs
def encF (rs : List Rec) : List Int := encH rs ++ sumB (encH rs)

theorem recB_bytes : ∀ (rs : List Rec) (t : Int), 0 ≤ t → recsOkF t rs = true → ∀ b ∈ recB t rs, 0 ≤ b ∧ b < 256
  | [], t, _, _ => by simp [recB]
  | r :: rs, t, ht, h => by
    simp only [recsOkF, Bool.and_eq_true] at h
    obtain ⟨⟨o1, o2, o3, o4, o5, o6⟩, o7⟩ := recOkF_iff h.1
    intro b hb
    simp only [recB, recOne, List.mem_append] at hb
    rcases hb with (hb | hb | hb | hb | hb | hb) | hb
    · exact numB_bytes (by omega) b hb
    · exact numB_bytes (by omega) b hb
    · exact numB_bytes (by omega) b hb
    · exact numB_bytes (by omega) b hb
    · exact numB_bytes (by omega) b hb
    · obtain ⟨x, hx, hb⟩ := List.mem_flatMap.1 hb
      exact sgnB_bytes (o6 x hx) b hb
    · exact recB_bytes rs r.e.time (by omega) h.2 b hb
theorem areF_len {rs : List Rec} (h : areF rs = true) : rs.length ≤ 1000 ∧ recsOkF 0 rs = true := by
  simpa [areF] using h
theorem encT_bytes {rs : List Rec} (h : areF rs = true) : ∀ b ∈ encT rs, 0 ≤ b ∧ b < 256 := by
  obtain ⟨h1, h2⟩ := areF_len h
  intro b hb
  rcases List.mem_append.1 hb with hb | hb
  · exact numB_bytes (by omega) b hb
  · exact recB_bytes rs 0 (by omega) h2 b hb
theorem encT_len {rs : List Rec} (h : areF rs = true) : (encT rs).length ≤ 210010 := by
  obtain ⟨h1, h2⟩ := areF_len h
  have := recB_len rs 0 (fun r hr => (recsOkF_mem h2 r hr).len)
  have := numB_len (rs.length : Int)
  simp only [encT, List.length_append]
  omega
theorem encF_len (rs : List Rec) : (encF rs).length = (encT rs).length + 8 := by
  simp only [encF, encH, List.length_append, sumB_len, List.length_cons, List.length_nil]
  omega

set_option maxRecDepth 100000 in
set_option maxHeartbeats 1000000 in
theorem encode_no (a : Option Addr) (cap : Nat) (rs : List Rec) (w : World) (h : RecIn w a rs) (hl : rs.length ≤ 1000000000000000) (hno : areF rs = false) :
    Calls Try.prog 18 #[.slice a rs.length cap] w fun e w' => e = .returned (.tuple #[.slice none 0 0, .int .i64 1]) ∧ Below w.heap.size w w' := by
  go_enter Try.func18, Try.ntmps18
  go_wp2_with fail
  refine (areRecs_any a cap rs w h hl).mono ?_
  rintro e w1 ⟨rfl, hb1⟩
  rw [hno]
  have HB1 := hide hb1
  clear hb1 h
  go_wp2_with fail
  go_ret2
  exact ⟨rfl, HB1.out⟩

set_option maxRecDepth 100000 in
set_option maxHeartbeats 1000000 in
theorem encode_yes (a : Option Addr) (cap : Nat) (rs : List Rec) (w : World) (h : RecIn w a rs) (hyes : areF rs = true) :
    Calls Try.prog 18 #[.slice a rs.length cap] w fun e w' => ∃ v, e = .returned (.tuple #[v, .int .i64 0]) ∧ Below w.heap.size w w' ∧ BRow w.heap.size w' v (encF rs) := by
  have H := hide h
  obtain ⟨h1, h2⟩ := areF_len hyes
  have Hby := hide (encT_bytes hyes)
  have hbl := encT_len hyes
  have Hyes := hide hyes
  clear h hyes
  go_enter Try.func18, Try.ntmps18
  go_wp2_with fail
  refine (areRecs_any a cap rs w H.out (by omega)).mono ?_
  rintro e w0 ⟨rfl, hb0⟩
  rw [Hyes.out]
  have HB0 := hide hb0
  have hz0 := hb0.size
  clear hb0
  go_wp2_with fail
  refine (begin_any w0 _ ?_).mono ?_
  · decide
  rintro e w1 ⟨wb, lv1, rfl, hb1, hwl, hW1, hlv⟩
  have HS1 : Hid (SvR w0 w1 wb lv1 [84, 77, 82, 1]) := ⟨hb1, hW1, hwl⟩
  clear hb1 hW1 hwl hlv
  go_wp2_with fail
  refine (writeRecs_any a cap rs w0 w1 wb lv1 _ (H.out.below HB0.out) h2 h1 HS1.out (by simp)).mono ?_
  rintro e w2 ⟨rfl, lv2, hS2⟩
  have HS2 := hide hS2
  clear hS2
  go_wp2_with fail
  refine (end_any w0.heap.size wb lv2 (encH rs) w2 HS2.out.wr HS2.out.below.size (by simp only [encH, List.length_append, List.length_cons, List.length_nil]; omega) ?_).mono ?_
  · intro c hc
    rcases List.mem_append.1 hc with hc | hc
    · simp at hc; omega
    · exact Hby.out c hc
  rintro e w3 ⟨v, rfl, ho3, hrow3⟩
  obtain ⟨g, cap', rfl⟩ := hrow3.form
  have HB3 : Hid (Below w.heap.size w w3) := HB0.out.trans ((HS2.out.below.trans (ho3.below HS2.out.below.size (fun k hk hc => by have := (HS2.out.wr.row.lt k hc).1; omega))).mono hz0)
  have Hrow3 := hide (hrow3.mono hz0)
  clear hrow3 ho3
  go_wp2_with fail
  go_ret2
  exact ⟨_, rfl, HB3.out, by have := Hrow3.out; simp only [List.length_append] at this; exact this⟩
end Go.Proofs.Ytndlmgocldckfaa

namespace Go.Proofs.Ytndlmgocldckfaa
open Go.RowKit
set_option linter.unusedVariables false
set_option linter.unusedSimpArgs false

/-! Records out of bytes. -/

def toldRF : Nat → List Int → Bool → List Int × List Int × Bool
  | 0, l, f => ([], l, f)
  | n + 1, l, f => ((readS 1000000000 l f).1 :: (toldRF n (readS 1000000000 l f).2.1 (readS 1000000000 l f).2.2).1, (toldRF n (readS 1000000000 l f).2.1 (readS 1000000000 l f).2.2).2)
def recRF (t : Int) (l : List Int) (flt : Bool) : Rec × List Int × Bool :=
  let a := readF 0 (1000000000000 - t) l flt
  let b := readF 0 1000000000 a.2.1 a.2.2
  let c := readF 0 7 b.2.1 b.2.2
  let d := readF 0 7 c.2.1 c.2.2
  let n := readF 0 16 d.2.1 d.2.2
  let s := toldRF n.1.toNat n.2.1 n.2.2
  (⟨⟨t + a.1, b.1, c.1, d.1⟩, s.1⟩, s.2)

theorem toldRF_len : ∀ (n : Nat) (l : List Int) (f : Bool), (toldRF n l f).1.length = n
  | 0, l, f => rfl
  | n + 1, l, f => by simp [toldRF, toldRF_len n]

theorem owns_mono {w : World} {base base' : Nat} {e : TypeId} {size : Nat} {v : Value} {n : Nat} {xs : List Value} (h : w.ownsRow base e size v n xs) (hb : base' ≤ base) : w.ownsRow base' e size v n xs := by
  obtain ⟨h1, h2⟩ := h
  refine ⟨h1, ?_⟩
  rcases h2 with h2 | ⟨g, cap, cur, rfl, hg, r⟩
  · exact .inl h2
  · exact .inr ⟨g, cap, cur, rfl, by omega, r⟩

/-- A record that is being read, into a variable. -/
structure RdV (w wr : World) (rb g C V : Nat) (l : List Int) (f : Bool) (e : Ev) (sv : Value) (ts : List Int) : Prop where
  only : Only (· = rb) w wr
  rd : RdP wr rb g l f
  var : RecVar wr V e sv
  room : Room wr V 5
  croom : Room wr C 5
  row : wr.ownsRow (V + 1) 3 1 sv ts.length (ints ts)
  rlt : rb < w.heap.size
  glt : g < w.heap.size
  cge : w.heap.size ≤ C
  vge : C < V

section
variable {w wr w' : World} {rb g C V : Nat} {l l' : List Int} {f f' : Bool} {e e' : Ev} {sv : Value} {ts : List Int}
theorem RdV.read (h : RdV w wr rb g C V l f e sv ts) (ho : Only (· = rb) wr w') (hr : RdP w' rb g l' f') : RdV w w' rb g C V l' f' e sv ts := by
  have h1 := h.rlt
  have h2 := h.cge
  have h3 := h.vge
  refine ⟨h.only.trans ho, hr, ⟨ho.at h.var.c0 (by omega), ho.at h.var.c1 (by omega), ho.at h.var.c2 (by omega), ho.at h.var.c3 (by omega), ho.at h.var.c4 (by omega)⟩, h.room.only ho (by omega), h.croom.only ho (by omega), owns_keep h.row ho ?_, h.rlt, h.glt, h.cge, h.vge⟩
  intro b hb hc
  have := (h.row.lt b hb.symm).1
  omega
theorem RdV.set (h : RdV w wr rb g C V l f e sv ts) (j : Nat) (v : Value) (hv : RecVar (wr.setCell ⟨V, j, none⟩ v) V e' sv) : RdV w (wr.setCell ⟨V, j, none⟩ v) rb g C V l f e' sv ts := by
  have h1 := h.rlt
  have h2 := h.cge
  have h3 := h.vge
  have h4 := h.glt
  have ho : Only (· = V) wr (wr.setCell ⟨V, j, none⟩ v) := (Only.refl (· = V) wr).setCell (p := ⟨V, j, none⟩) (show V = V from rfl) _
  refine ⟨h.only.chain ho (fun i hi hc => by omega), h.rd.only ho (by omega) (by omega), hv, h.room.setCell _ _, h.croom.setCell _ _, owns_keep h.row ho ?_, h.rlt, h.glt, h.cge, h.vge⟩
  intro b hb hc
  have := (h.row.lt b hb.symm).1
  omega
theorem RdV.set0 (h : RdV w wr rb g C V l f e sv ts) (n : Int) : RdV w (wr.setCell ⟨V, 0, none⟩ (.int .i64 n)) rb g C V l f ⟨e.time, n, e.kind, e.entity⟩ sv ts :=
  h.set 0 _ ⟨World.cell?_setCell_same' _ _ _ (h.room 0 (by omega)).1, (World.cell?_setCell_other _ _ _ _ (by simp)).trans h.var.c1, (World.cell?_setCell_other _ _ _ _ (by simp)).trans h.var.c2, (World.cell?_setCell_other _ _ _ _ (by simp)).trans h.var.c3, (World.cell?_setCell_other _ _ _ _ (by simp)).trans h.var.c4⟩
theorem RdV.set2 (h : RdV w wr rb g C V l f e sv ts) (n : Int) : RdV w (wr.setCell ⟨V, 2, none⟩ (.int .i64 n)) rb g C V l f ⟨e.time, e.number, n, e.entity⟩ sv ts :=
  h.set 2 _ ⟨(World.cell?_setCell_other _ _ _ _ (by simp)).trans h.var.c0, (World.cell?_setCell_other _ _ _ _ (by simp)).trans h.var.c1, World.cell?_setCell_same' _ _ _ (h.room 2 (by omega)).1, (World.cell?_setCell_other _ _ _ _ (by simp)).trans h.var.c3, (World.cell?_setCell_other _ _ _ _ (by simp)).trans h.var.c4⟩
theorem RdV.set3 (h : RdV w wr rb g C V l f e sv ts) (n : Int) : RdV w (wr.setCell ⟨V, 3, none⟩ (.int .i64 n)) rb g C V l f ⟨e.time, e.number, e.kind, n⟩ sv ts :=
  h.set 3 _ ⟨(World.cell?_setCell_other _ _ _ _ (by simp)).trans h.var.c0, (World.cell?_setCell_other _ _ _ _ (by simp)).trans h.var.c1, (World.cell?_setCell_other _ _ _ _ (by simp)).trans h.var.c2, World.cell?_setCell_same' _ _ _ (h.room 3 (by omega)).1, (World.cell?_setCell_other _ _ _ _ (by simp)).trans h.var.c4⟩
/-- One more is told. -/
theorem RdV.tell (h : RdV w wr rb g C V l f e sv ts) {o1 : Obj} {w2 : World} {sv2 : Value} {x : Int} (hg : (wr.alloc o1).grownBy w2 sv.ownBlock) (hown : w2.ownsRow (V + 1) 3 1 sv2 (ts.length + 1) (ints ts ++ [.int .i64 x])) : RdV w (w2.setCell ⟨V, 4, none⟩ sv2) rb g C V l f e sv2 (ts ++ [x]) := by
  have h1 := h.rlt
  have h2 := h.cge
  have h3 := h.vge
  have h4 := h.glt
  have hz := h.only.size
  have hbA : Below wr.heap.size wr (wr.alloc o1) := (Below.refl _ _).alloc (Nat.le_refl _) _
  have hO : Only (fun b => some b = sv.ownBlock) wr w2 := (Only.new hbA).trans (only_of_grown hg)
  have hlt : ∀ b, some b = sv.ownBlock → V + 1 ≤ b := fun b hb => (h.row.lt b hb.symm).1
  have hro : Room w2 V 5 := h.room.only hO (fun hc => by have := hlt _ hc; omega)
  have ho : Only (· = V) w2 (w2.setCell ⟨V, 4, none⟩ sv2) := (Only.refl (· = V) w2).setCell (p := ⟨V, 4, none⟩) (show V = V from rfl) _
  have hv : RecVar w2 V e sv := ⟨hO.at h.var.c0 (fun hc => by have := hlt _ hc; omega), hO.at h.var.c1 (fun hc => by have := hlt _ hc; omega), hO.at h.var.c2 (fun hc => by have := hlt _ hc; omega), hO.at h.var.c3 (fun hc => by have := hlt _ hc; omega), hO.at h.var.c4 (fun hc => by have := hlt _ hc; omega)⟩
  refine ⟨(h.only.chain hO (fun i hi hc => by have := hlt _ hc; omega)).chain ho (fun i hi hc => by omega), (h.rd.only hO (fun hc => by have := hlt _ hc; omega) (fun hc => by have := hlt _ hc; omega)).only ho (by omega) (by omega), ?_, hro.setCell _ _, (h.croom.only hO (fun hc => by have := hlt _ hc; omega)).setCell _ _, owns_keep (by simpa [ints] using hown) ho ?_, h.rlt, h.glt, h.cge, h.vge⟩
  · exact ⟨(World.cell?_setCell_other _ _ _ _ (by simp)).trans hv.c0, (World.cell?_setCell_other _ _ _ _ (by simp)).trans hv.c1, (World.cell?_setCell_other _ _ _ _ (by simp)).trans hv.c2, (World.cell?_setCell_other _ _ _ _ (by simp)).trans hv.c3, World.cell?_setCell_same' _ _ _ (hro 4 (by omega)).1⟩
  · intro b hb hc
    have := (hown.lt b hb.symm).1
    omega
theorem RdV.drew (h : RdV w wr rb g C V l f e sv ts) : RdV w wr.drew rb g C V l f e sv ts :=
  h.read (Only.new (Below.refl _ _).drew) (h.rd.only (Only.new (S := fun _ => False) (Below.refl _ _).drew) (by simp) (by simp))
end

set_option maxRecDepth 100000 in
set_option maxHeartbeats 4000000 in
theorem rRec_any (rb g : Nat) (l : List Int) (flt : Bool) (t : Int) (w : World) (h : RdP w rb g l flt) (ht : 0 ≤ t ∧ t ≤ 1000000000000) :
    Calls Try.prog 59 #[.pointer (some ⟨rb, 0, none⟩), .int .i64 t] w fun e w' => ∃ sa sc, e = .returned (.agg #[.int .i64 (recRF t l flt).1.e.number, .int .i64 (recRF t l flt).1.e.time, .int .i64 (recRF t l flt).1.e.kind, .int .i64 (recRF t l flt).1.e.entity, .slice sa (recRF t l flt).1.told.length sc]) ∧ Only (· = rb) w w' ∧ RdP w' rb g (recRF t l flt).2.1 (recRF t l flt).2.2 ∧ w'.ownsRow w.heap.size 3 1 (.slice sa (recRF t l flt).1.told.length sc) (recRF t l flt).1.told.length (ints (recRF t l flt).1.told) := by
  have H := hide h
  have hgl := h.glt
  have hrl := h.lt
  have hws : IntKind.i64.wrap (1000000000000 - t) = 1000000000000 - t := by rw [IntKind.wrap_i64]; omega
  have g1 := readF_le 0 (1000000000000 - t) (by omega) l flt
  have HE : Hid (recRF t l flt = (let a := readF 0 (1000000000000 - t) l flt; let b := readF 0 1000000000 a.2.1 a.2.2; let c := readF 0 7 b.2.1 b.2.2; let d := readF 0 7 c.2.1 c.2.2; let n := readF 0 16 d.2.1 d.2.2; let s := toldRF n.1.toNat n.2.1 n.2.2; (⟨⟨t + a.1, b.1, c.1, d.1⟩, s.1⟩, s.2))) := by show _ = _; rfl
  generalize recRF t l flt = out at HE ⊢
  generalize hA : readF 0 (1000000000000 - t) l flt = A at HE g1
  obtain ⟨v1, l1, f1⟩ := A
  simp only at HE g1
  generalize hB : readF 0 1000000000 l1 f1 = B at HE
  obtain ⟨v2, l2, f2⟩ := B
  simp only at HE
  generalize hC : readF 0 7 l2 f2 = CC at HE
  obtain ⟨v3, l3, f3⟩ := CC
  simp only at HE
  generalize hD : readF 0 7 l3 f3 = D at HE
  obtain ⟨v4, l4, f4⟩ := D
  simp only at HE
  have g5 := readF_le 0 16 (by omega) l4 f4
  generalize hN : readF 0 16 l4 f4 = NN at HE g5
  obtain ⟨v5, l5, f5⟩ := NN
  simp only at HE g5
  obtain ⟨N, rfl⟩ := Int.eq_ofNat_of_zero_le (show 0 ≤ v5 by omega)
  rw [Int.toNat_natCast] at HE
  have hN16 : N ≤ 16 := by omega
  have htl := toldRF_len N l5 f5
  generalize hT : toldRF N l5 f5 = T at HE htl
  obtain ⟨told, l6, f6⟩ := T
  simp only at HE htl
  have HA := hide hA
  have HB := hide hB
  have HC := hide hC
  have HD := hide hD
  have HN := hide hN
  have HT := hide hT
  have hwa : IntKind.i64.wrap (t + v1) = t + v1 := by rw [IntKind.wrap_i64]; omega
  clear h hA hB hC hD hN hT htl
  go_enter Try.func59, Try.ntmps59
  go_wp2_with fail
  obtain ⟨W0, hW0⟩ : ∃ W0, W0 = w.alloc (.cells #[.int .i64 0, .int .i64 0, .int .i64 0, .int .i64 0, .slice none 0 0] 36) := ⟨_, rfl⟩
  have hb0 : Below w.heap.size w W0 := by rw [hW0]; exact (Below.refl _ _).alloc (Nat.le_refl _) _
  have hz0 : W0.heap.size = w.heap.size + 1 := by rw [hW0]; simp
  have hr0 : Room W0 w.heap.size 5 := by
    rw [hW0]
    intro j hj
    have : j = 0 ∨ j = 1 ∨ j = 2 ∨ j = 3 ∨ j = 4 := by omega
    rcases this with rfl | rfl | rfl | rfl | rfl <;> simp [go_sem]
  rw [← hW0]
  refine (rNum_any rb g l flt 0 (1000000000000 - t) W0 (H.out.only (Only.new (S := fun _ => False) hb0) (by simp) (by simp))).mono ?_
  rintro e w1 ⟨rfl, ho1, hr1⟩
  rw [HA.out] at hr1 ⊢
  simp only at hr1 ⊢
  have hz1 := ho1.size
  have Hcr := hide (hr0.only ho1 (show ¬ w.heap.size = rb by omega))
  have HO1 : Hid (Only (· = rb) w w1) := (Only.new hb0).trans ho1
  have HR1 := hide hr1
  clear hW0 hb0 hr0 ho1 hr1
  go_wp2_with fail
  obtain ⟨W1, hW1⟩ : ∃ W1, W1 = w1.alloc (.cells #[.int .i64 0, .int .i64 (t + v1), .int .i64 0, .int .i64 0, .slice none 0 0] 36) := ⟨_, rfl⟩
  have hb1 : Below w1.heap.size w1 W1 := by rw [hW1]; exact (Below.refl _ _).alloc (Nat.le_refl _) _
  have HV1 : Hid (RdV w W1 rb g w.heap.size w1.heap.size l1 f1 ⟨t + v1, 0, 0, 0⟩ (.slice none 0 0) []) := by
    refine ⟨HO1.out.trans (Only.new hb1), HR1.out.only (Only.new (S := fun _ => False) hb1) (by simp) (by simp), ?_, ?_, Hcr.out.below hb1 (by omega), ?_, hrl, hgl, Nat.le_refl _, by omega⟩
    · rw [hW1]; exact RecVar.new w1 ⟨t + v1, 0, 0, 0⟩ _ _
    · rw [hW1]
      intro j hj
      have : j = 0 ∨ j = 1 ∨ j = 2 ∨ j = 3 ∨ j = 4 := by omega
      rcases this with rfl | rfl | rfl | rfl | rfl <;> simp [go_sem]
    · exact ⟨rfl, .inl ⟨rfl, rfl⟩⟩
  rw [← hW1]
  generalize w1.heap.size = V at HV1 hz1 ⊢
  generalize w.heap.size = C at HV1 hz0 hz1 hgl hrl ⊢
  clear hW1 hb1
  refine (rNum_any rb g l1 f1 _ _ W1 HV1.out.rd).mono ?_
  rintro e w2 ⟨rfl, ho2, hr2⟩
  rw [HB.out] at hr2 ⊢
  simp only at hr2 ⊢
  have HV2 := hide (HV1.out.read ho2 hr2)
  have x0 := HV2.out.var.c0
  have z0 := (HV2.out.room 0 (by omega)).2
  clear ho2 hr2
  go_wp2_with fail
  have HV2s := hide (HV2.out.set0 v2)
  simp only at HV2s
  generalize w2.setCell ⟨V, 0, none⟩ (.int .i64 v2) = W2 at HV2s ⊢
  clear x0 z0 HV2
  refine (rNum_any rb g l2 f2 _ _ W2 HV2s.out.rd).mono ?_
  rintro e w3 ⟨rfl, ho3, hr3⟩
  rw [HC.out] at hr3 ⊢
  simp only at hr3 ⊢
  have HV3 := hide (HV2s.out.read ho3 hr3)
  have x2 := HV3.out.var.c2
  have z2 := (HV3.out.room 2 (by omega)).2
  clear ho3 hr3
  go_wp2_with fail
  have HV3s := hide (HV3.out.set2 v3)
  simp only at HV3s
  generalize w3.setCell ⟨V, 2, none⟩ (.int .i64 v3) = W3 at HV3s ⊢
  clear x2 z2 HV3
  refine (rNum_any rb g l3 f3 _ _ W3 HV3s.out.rd).mono ?_
  rintro e w4 ⟨rfl, ho4, hr4⟩
  rw [HD.out] at hr4 ⊢
  simp only at hr4 ⊢
  have HV4 := hide (HV3s.out.read ho4 hr4)
  have x3 := HV4.out.var.c3
  have z3 := (HV4.out.room 3 (by omega)).2
  clear ho4 hr4
  go_wp2_with fail
  have HV4s := hide (HV4.out.set3 v4)
  simp only at HV4s
  generalize w4.setCell ⟨V, 3, none⟩ (.int .i64 v4) = W4 at HV4s ⊢
  clear x3 z3 HV4
  refine (rNum_any rb g l4 f4 _ _ W4 HV4s.out.rd).mono ?_
  rintro e w5 ⟨rfl, ho5, hr5⟩
  rw [HN.out] at hr5 ⊢
  simp only at hr5 ⊢
  have HV5 := hide (HV4s.out.read ho5 hr5)
  clear ho5 hr5 HV1 HV2s HV3s HV4s
  go_wp2_with fail
  go_loopg [24] 20 (fun gf s24 wx => ∃ (k : Nat) (ts : List Int) (sv : Value) (lk : List Int) (fk : Bool), s24 = .int .i64 k ∧ N - k + 2 ≤ gf ∧ k ≤ N ∧ ts.length = k ∧ Hid (RdV w wx rb g C V lk fk ⟨t + v1, v2, v3, v4⟩ sv ts ∧ ts ++ (toldRF (N - k) lk fk).1 = told ∧ (toldRF (N - k) lk fk).2 = (l6, f6)))
  case atStart => exact ⟨0, [], _, l5, f5, rfl, by omega, by omega, rfl, HV5.out, by simp [HT.out], by simp [HT.out]⟩
  case round =>
    obtain ⟨k, ts, sv, lk, fk, rfl, hgf, hk, htk, hK⟩ := hrel
    have Htk := hide htk
    have htk16 : ts.length ≤ 16 := by omega
    clear htk
    by_cases hlt : k < N
    · have d1 : decide ((k : Int) < (N : Int)) = true := by simp; omega
      have hw : IntKind.i64.wrap ((k : Int) + 1) = (k : Int) + 1 := by rw [IntKind.wrap_i64]; omega
      have hK2 := hK.out.2
      rw [show N - k = (N - (k + 1)) + 1 by omega, toldRF] at hK2
      simp only at hK2
      have HK2 := hide hK2
      have HV := hide hK.out.1
      have HVd := hide hK.out.1.drew
      have c4 : wr.drew.cell? ⟨V, 4, none⟩ = some sv := HVd.out.var.c4
      have HX := hide (rSgn_any rb g lk fk wr.drew HVd.out.rd)
      clear hK2 hK
      go_wp2_with fail
      go_region_law (first | (go_simp; go_at_call 56; refine HX.out.mono ?_; rintro e' w6 ⟨rfl, ho6, hr6⟩; (have HV6 := hide (HVd.out.read ho6 hr6)); (have c5 := HV6.out.var.c4); (have c6 : ∀ o, (w6.alloc o).cell? ⟨V, 4, none⟩ = some sv := fun o => below_at ((Below.refl w6.heap.size w6).alloc (Nat.le_refl _) o) c5 (lt_of_cell c5))) | (refine step_append_src rfl (.tmp 27) (.tmp 30) 22 rfl (V + 1) 3 (.int .i64 0) 1 8 Try.underlying22 Try.info3 rfl (by omega) sv ts.length (ints ts) rfl (HV6.out.row.alloc _) _ 1 [.int .i64 (readS 1000000000 lk fk).1] rfl (.inr (.inl ⟨w6.heap.size, 0, _, rfl, row_one _ _ _⟩)) rfl (by simp [Value.oneCell']) (by omega) (by omega) (by have := lt_of_cell c5; simp; omega) ?_; intro v7 w7 hown7 hgr7 hwh7; (have c7 : w7.cell? ⟨V, 4, none⟩ = some sv := (only_of_grown hgr7.out).at (c6 _) (fun hc => by have := (HV6.out.row.lt _ hc.symm).1; omega)); (have z7 : w7.frozen? ⟨V, 4, none⟩ = false := (((HV6.out.room.below ((Below.refl w6.heap.size w6).alloc (Nat.le_refl _) _) (lt_of_cell c5)).only (only_of_grown hgr7.out) (fun hc => by have := (HV6.out.row.lt _ hc.symm).1; omega)) 4 (by omega)).2); obtain ⟨sa7, sc7, rfl⟩ := owns_form1 hown7.out))
      all_goals
        have HT7 := hide (HV6.out.tell hgr7.out hown7.out)
        generalize w7.setCell ⟨V, 4, none⟩ (.slice sa7 (ts.length + 1) sc7) = W7 at HT7 ⊢
        clear c5 c6 c7 z7 hgr7 hown7 hwh7 ho6 hr6 HX c4
        go_wp2_with fail
        go_roundg (N - (k + 1) + 2)
        case measure => omega
        case rel => exact ⟨k + 1, ts ++ [(readS 1000000000 lk fk).1], _, _, _, by go_num, Nat.le_refl _, by omega, by simp [Htk.out], HT7.out, by rw [← HK2.out.1]; simp, HK2.out.2⟩
    · have d1 : decide ((k : Int) < (N : Int)) = false := by simp; omega
      obtain rfl : k = N := by omega
      have hK1 := hK.out.2
      rw [Nat.sub_self] at hK1
      simp only [toldRF, List.append_nil, Prod.mk.injEq] at hK1
      obtain ⟨rfl, rfl, rfl⟩ := hK1
      have HV := hide hK.out.1
      have x0 := HV.out.var.c0
      have x1 := HV.out.var.c1
      have x2 := HV.out.var.c2
      have x3 := HV.out.var.c3
      have x4 := HV.out.var.c4
      simp only at x0 x1 x2 x3
      obtain ⟨sa, sc, rfl⟩ := owns_form1 HV.out.row
      obtain ⟨s0, g0⟩ := HV.out.croom 0 (by omega)
      obtain ⟨s1, g1⟩ := HV.out.croom 1 (by omega)
      obtain ⟨s2, g2⟩ := HV.out.croom 2 (by omega)
      obtain ⟨s3, g3⟩ := HV.out.croom 3 (by omega)
      obtain ⟨s4, g4⟩ := HV.out.croom 4 (by omega)
      obtain ⟨t0, i0⟩ := Option.isSome_iff_exists.1 s0
      obtain ⟨t1, i1⟩ := Option.isSome_iff_exists.1 s1
      obtain ⟨t2, i2⟩ := Option.isSome_iff_exists.1 s2
      obtain ⟨t3, i3⟩ := Option.isSome_iff_exists.1 s3
      obtain ⟨t4, i4⟩ := Option.isSome_iff_exists.1 s4
      have hcv := HV.out.vge
      clear s0 s1 s2 s3 s4 hK
      go_wp2_with fail
      obtain ⟨WZ, hWZ⟩ : ∃ WZ, WZ = (set4 wr C 0 ⟨v2, t + v1, v3, v4⟩).setCell ⟨C, 4, none⟩ (.slice sa ts.length sc) := ⟨_, rfl⟩
      obtain ⟨t0', t1', t2', t3'⟩ := set4_same wr C 0 4 ⟨v2, t + v1, v3, v4⟩ (fun j hj => HV.out.croom j (by omega)) (by omega)
      have q0 : WZ.cell? ⟨C, 0, none⟩ = some (.int .i64 v2) := by rw [hWZ, World.cell?_setCell_other _ _ _ _ (by simp)]; exact t0'
      have q1 : WZ.cell? ⟨C, 1, none⟩ = some (.int .i64 (t + v1)) := by rw [hWZ, World.cell?_setCell_other _ _ _ _ (by simp)]; exact t1'
      have q2 : WZ.cell? ⟨C, 2, none⟩ = some (.int .i64 v3) := by rw [hWZ, World.cell?_setCell_other _ _ _ _ (by simp)]; exact t2'
      have q3 : WZ.cell? ⟨C, 3, none⟩ = some (.int .i64 v4) := by rw [hWZ, World.cell?_setCell_other _ _ _ _ (by simp)]; exact t3'
      have q4 : WZ.cell? ⟨C, 4, none⟩ = some (.slice sa ts.length sc) := by rw [hWZ]; exact World.cell?_setCell_same' _ _ _ ((HV.out.croom.set4 C 0 ⟨v2, t + v1, v3, v4⟩) 4 (by omega)).1
      have hoZ : Only (· = C) wr WZ := by rw [hWZ]; exact ((Only.refl (· = C) wr).set4 (b := C) (show C = C from rfl) 0 _).setCell (p := ⟨C, 4, none⟩) (show C = C from rfl) _
      have hWZ' := hWZ
      simp only [set4, Nat.zero_add] at hWZ'
      rw [← hWZ']
      clear hWZ hWZ'
      refine bodyPost_ret (v := .agg #[.int .i64 v2, .int .i64 (t + v1), .int .i64 v3, .int .i64 v4, .slice sa ts.length sc]) ?_ rfl ?_
      · rw [results_cell1 rfl]; simp [go_sem, q0, q1, q2, q3, q4]
      rw [HE.out]
      have hcg := HV.out.cge
      refine ⟨sa, sc, rfl, HV.out.only.chain hoZ (fun i hi hc => by omega), HV.out.rd.only hoZ (by omega) (by omega), owns_mono (owns_keep HV.out.row hoZ ?_) (by omega)⟩
      intro b hb hc
      have := (HV.out.row.lt b hb.symm).1
      omega
end Go.Proofs.Ytndlmgocldckfaa

namespace Go.Proofs.Ytndlmgocldckfaa
open Go.RowKit
set_option linter.unusedVariables false
set_option linter.unusedSimpArgs false

/-! Records of several runs in one list. -/

def AllSet (av : Value) (L : List RecC) (b : Nat) : Prop := some b = av.ownBlock ∨ ∃ x ∈ L, some b = (Value.slice x.sa x.n x.sc).ownBlock

structure AllR (w : World) (Z : Nat) (av : Value) (L : List RecC) (rs : List Rec) : Prop where
  len : L.length = rs.length
  row : w.ownsRow Z 36 5 av L.length (recCells L)
  rec_ : ∀ (j : Nat) x r, L[j]? = some x → rs[j]? = some r → x.e = r.e ∧ x.n = r.told.length ∧ w.ownsRow Z 3 1 (.slice x.sa x.n x.sc) r.told.length (ints r.told)
  tsep : ∀ x ∈ L, ∀ b, some b = (Value.slice x.sa x.n x.sc).ownBlock → some b ≠ av.ownBlock

theorem AllR.lt {w : World} {Z : Nat} {av : Value} {L : List RecC} {rs : List Rec} (h : AllR w Z av L rs) : ∀ b, AllSet av L b → Z ≤ b ∧ b < w.heap.size := by
  rintro b (hb | ⟨x, hx, hb⟩)
  · exact h.row.lt b hb.symm
  · obtain ⟨j, hj⟩ := List.getElem?_of_mem hx
    have hl : j < rs.length := by have := (List.getElem?_eq_some_iff.1 hj).1; have := h.len; omega
    obtain ⟨_, _, h3⟩ := h.rec_ j x rs[j] hj (List.getElem?_eq_getElem hl)
    exact h3.lt b hb.symm
theorem AllR.only {w w' : World} {Z : Nat} {av : Value} {L : List RecC} {rs : List Rec} {U : Nat → Prop} (h : AllR w Z av L rs) (ho : Only U w w') (hU : ∀ b, AllSet av L b → ¬ U b) : AllR w' Z av L rs := by
  refine ⟨h.len, owns_keep h.row ho (fun b hb => hU b (.inl hb)), fun j x r hx hr => ?_, h.tsep⟩
  obtain ⟨h1, h2, h3⟩ := h.rec_ j x r hx hr
  exact ⟨h1, h2, owns_keep h3 ho (fun b hb => hU b (.inr ⟨x, List.mem_of_getElem? hx, hb⟩))⟩
theorem AllR.nil (w : World) (Z : Nat) : AllR w Z (.slice none 0 0) [] [] :=
  ⟨rfl, World.ownsRow_nil _ _ _ _, by simp, by simp⟩
theorem recCells_one (L : List RecC) : ∀ u ∈ recCells L, u.oneCell' = true := by
  intro u hu
  obtain ⟨x, _, hx⟩ := List.mem_flatMap.1 hu
  simp only [RecC.cells, List.mem_cons, List.not_mem_nil, or_false] at hx
  rcases hx with rfl | rfl | rfl | rfl | rfl <;> rfl
theorem recCells_append (A B : List RecC) : recCells (A ++ B) = recCells A ++ recCells B := by simp [recCells]
theorem AllR.app {w w' : World} {Z : Nat} {av av' lv : Value} {A B : List RecC} {ra rb : List Rec} (h : AllR w Z av A ra) (k : AllR w Z lv B rb) (hg : w.grownBy w' av.ownBlock) (hown : w'.ownsRow Z 36 5 av' (A.length + B.length) (recCells A ++ recCells B)) (hwh : av'.ownBlock = av.ownBlock ∨ av'.ownBlock = some w.heap.size) (hdis : ∀ x ∈ B, ∀ b, some b = (Value.slice x.sa x.n x.sc).ownBlock → some b ≠ av.ownBlock) : AllR w' Z av' (A ++ B) (ra ++ rb) := by
  have ho : Only (fun b => some b = av.ownBlock) w w' := only_of_grown hg
  have hla := h.len
  have hlb := k.len
  refine ⟨by simp; omega, by rw [recCells_append, List.length_append]; exact hown, fun j x r hx hr => ?_, ?_⟩
  · by_cases hj : j < A.length
    · rw [List.getElem?_append_left hj] at hx
      rw [List.getElem?_append_left (by omega)] at hr
      obtain ⟨h1, h2, h3⟩ := h.rec_ j x r hx hr
      exact ⟨h1, h2, owns_keep h3 ho (fun b hb hc => h.tsep x (List.mem_of_getElem? hx) b hb hc)⟩
    · rw [List.getElem?_append_right (by omega)] at hx
      rw [List.getElem?_append_right (by omega)] at hr
      rw [← hla] at hr
      obtain ⟨h1, h2, h3⟩ := k.rec_ _ x r hx hr
      exact ⟨h1, h2, owns_keep h3 ho (fun b hb hc => hdis x (List.mem_of_getElem? hx) b hb hc)⟩
  · intro x hx b hb
    rcases hwh with e | e
    · rw [e]
      rcases List.mem_append.1 hx with hx | hx
      · exact h.tsep x hx b hb
      · exact hdis x hx b hb
    · rw [e]
      intro hc
      simp at hc
      rcases List.mem_append.1 hx with hx | hx
      · have := (h.lt b (.inr ⟨x, hx, hb⟩)).2; omega
      · have := (k.lt b (.inr ⟨x, hx, hb⟩)).2; omega


theorem AllR.recIn {w : World} {Z : Nat} {av : Value} {L : List RecC} {rs : List Rec} (h : AllR w Z av L rs) : ∃ a cap, av = .slice a rs.length cap ∧ RecIn w a rs := by
  have hl := h.len
  rcases owns_row h.row with ⟨rfl, h0, _⟩ | ⟨g, cap, rfl, h1, h2, h3⟩
  · have hr : rs = [] := List.eq_nil_of_length_eq_zero (by omega)
    subst hr
    exact ⟨none, 0, rfl, by intro i r hr; simp at hr⟩
  · refine ⟨some ⟨g, 0, none⟩, cap, by rw [hl], ?_⟩
    intro i r hr
    have hi : i < L.length := by have := (List.getElem?_eq_some_iff.1 hr).1; omega
    have hx : L[i]? = some L[i] := List.getElem?_eq_getElem hi
    obtain ⟨e1, e2, e3⟩ := h.rec_ i _ r hx hr
    have hc : ∀ (j : Nat) v, j < 5 → (L[i].cells)[j]? = some v → w.cell? ⟨g, 0 + i * 5 + j, none⟩ = some v := by
      intro j v hj hv
      have := h3 (i * 5 + j) v (by rw [recCells_get L i j hj, hx]; exact hv)
      rw [Nat.add_assoc]; exact this
    refine ⟨g, 0, L[i].sa, L[i].sc, rfl, ?_, ?_, ?_, ?_, ?_, ?_⟩
    · have := hc 0 _ (by omega) rfl; rw [← e1]; exact this
    · have := hc 1 _ (by omega) rfl; rw [← e1]; exact this
    · have := hc 2 _ (by omega) rfl; rw [← e1]; exact this
    · have := hc 3 _ (by omega) rfl; rw [← e1]; exact this
    · have := hc 4 _ (by omega) rfl; rw [← e2]; exact this
    · intro k t ht
      rcases owns_row e3 with ⟨_, h0, _⟩ | ⟨g', cap', q1, _, _, q3⟩
      · have := (List.getElem?_eq_some_iff.1 ht).1; omega
      · simp only [Value.slice.injEq] at q1
        exact ⟨g', 0, q1.1, q3 k (.int .i64 t) (by simp [ints, ht])⟩
/-- No two of them share memory. -/
def ApartR (L : List RecC) : Prop := ∀ (j k : Nat) x y b, L[j]? = some x → L[k]? = some y → some b = (Value.slice x.sa x.n x.sc).ownBlock → some b = (Value.slice y.sa y.n y.sc).ownBlock → j = k

/-- One more record. -/
theorem AllR.snoc {w w' : World} {Z : Nat} {av av' : Value} {A : List RecC} {ra : List Rec} {x : RecC} {r : Rec} (h : AllR w Z av A ra) (he : x.e = r.e) (hn : x.n = r.told.length) (hx : w.ownsRow Z 3 1 (.slice x.sa x.n x.sc) r.told.length (ints r.told)) (hg : w.grownBy w' av.ownBlock) (hown : w'.ownsRow Z 36 5 av' (A.length + 1) (recCells A ++ x.cells)) (hwh : av'.ownBlock = av.ownBlock ∨ av'.ownBlock = some w.heap.size) (hdis : ∀ b, some b = (Value.slice x.sa x.n x.sc).ownBlock → some b ≠ av.ownBlock) : AllR w' Z av' (A ++ [x]) (ra ++ [r]) := by
  have ho : Only (fun b => some b = av.ownBlock) w w' := only_of_grown hg
  have hla := h.len
  refine ⟨by simp; omega, by rw [recCells_append, List.length_append]; simpa [recCells] using hown, fun j y q hy hq => ?_, ?_⟩
  · by_cases hj : j < A.length
    · rw [List.getElem?_append_left hj] at hy
      rw [List.getElem?_append_left (by omega)] at hq
      obtain ⟨h1, h2, h3⟩ := h.rec_ j y q hy hq
      exact ⟨h1, h2, owns_keep h3 ho (fun b hb hc => h.tsep y (List.mem_of_getElem? hy) b hb hc)⟩
    · rw [List.getElem?_append_right (by omega)] at hy
      rw [List.getElem?_append_right (by omega)] at hq
      rw [← hla] at hq
      rcases hj0 : j - A.length with _ | m
      · rw [hj0] at hy hq
        simp at hy hq
        subst hy hq
        exact ⟨he, hn, owns_keep hx ho (fun b hb hc => hdis b hb hc)⟩
      · rw [hj0] at hy
        simp at hy
  · intro y hy b hb
    rcases hwh with e | e
    · rw [e]
      rcases List.mem_append.1 hy with hy | hy
      · exact h.tsep y hy b hb
      · simp at hy; subst hy; exact hdis b hb
    · rw [e]
      intro hc
      simp at hc
      rcases List.mem_append.1 hy with hy | hy
      · have := (h.lt b (.inr ⟨y, hy, hb⟩)).2; omega
      · simp at hy; subst hy; have := (hx.lt b hb.symm).2; omega
theorem ApartR.snoc {w : World} {Z : Nat} {av : Value} {A : List RecC} {ra : List Rec} {x : RecC} (h : ApartR A) (hA : AllR w Z av A ra) (hx : ∀ b, some b = (Value.slice x.sa x.n x.sc).ownBlock → w.heap.size ≤ b) : ApartR (A ++ [x]) := by
  intro j k y z b hy hz hby hbz
  have hlt : ∀ (j : Nat) y, A[j]? = some y → some b = (Value.slice y.sa y.n y.sc).ownBlock → b < w.heap.size := fun j y hy hb => (hA.lt b (.inr ⟨y, List.mem_of_getElem? hy, hb⟩)).2
  have hlast : ∀ (j : Nat) y, ¬ j < A.length → (A ++ [x])[j]? = some y → j = A.length ∧ y = x := by
    intro j y hj hy
    rw [List.getElem?_append_right (by omega)] at hy
    rcases hj0 : j - A.length with _ | m
    · rw [hj0] at hy; simp at hy; exact ⟨by omega, hy.symm⟩
    · rw [hj0] at hy; simp at hy
  by_cases hj : j < A.length
  · rw [List.getElem?_append_left hj] at hy
    by_cases hk : k < A.length
    · rw [List.getElem?_append_left hk] at hz
      exact h j k y z b hy hz hby hbz
    · obtain ⟨_, rfl⟩ := hlast k z hk hz
      have := hlt j y hy hby
      have := hx b hbz
      omega
  · obtain ⟨e1, rfl⟩ := hlast j y hj hy
    by_cases hk : k < A.length
    · rw [List.getElem?_append_left hk] at hz
      have := hlt k z hz hbz
      have := hx b hby
      omega
    · obtain ⟨e2, _⟩ := hlast k z hk hz
      omega
end Go.Proofs.Ytndlmgocldckfaa

namespace Go.Proofs.Ytndlmgocldckfaa
open Go.RowKit
set_option linter.unusedVariables false
set_option linter.unusedSimpArgs false

/-! Decode. -/

def recsRF : Nat → Int → List Int → Bool → List Rec × List Int × Bool
  | 0, _, l, f => ([], l, f)
  | n + 1, t, l, f => ((recRF t l f).1 :: (recsRF n (recRF t l f).1.e.time (recRF t l f).2.1 (recRF t l f).2.2).1, (recsRF n (recRF t l f).1.e.time (recRF t l f).2.1 (recRF t l f).2.2).2)
def decRF (l : List Int) : List Rec × List Int × Bool := recsRF (readF 0 1000 l false).1.toNat 0 (readF 0 1000 l false).2.1 (readF 0 1000 l false).2.2

theorem recRF_time (t : Int) (l : List Int) (f : Bool) (ht : 0 ≤ t ∧ t ≤ 1000000000000) : t ≤ (recRF t l f).1.e.time ∧ (recRF t l f).1.e.time ≤ 1000000000000 := by
  have := readF_le 0 (1000000000000 - t) (by omega) l f
  simp only [recRF]
  omega
theorem recRF_told (t : Int) (l : List Int) (f : Bool) : (recRF t l f).1.told.length ≤ 16 := by
  simp only [recRF, toldRF_len]
  have := readF_le 0 16 (by omega) (readF 0 7 (readF 0 7 (readF 0 1000000000 (readF 0 (1000000000000 - t) l f).2.1 (readF 0 (1000000000000 - t) l f).2.2).2.1 (readF 0 1000000000 (readF 0 (1000000000000 - t) l f).2.1 (readF 0 (1000000000000 - t) l f).2.2).2.2).2.1 (readF 0 7 (readF 0 1000000000 (readF 0 (1000000000000 - t) l f).2.1 (readF 0 (1000000000000 - t) l f).2.2).2.1 (readF 0 1000000000 (readF 0 (1000000000000 - t) l f).2.1 (readF 0 (1000000000000 - t) l f).2.2).2.2).2.2).2.1 (readF 0 7 (readF 0 7 (readF 0 1000000000 (readF 0 (1000000000000 - t) l f).2.1 (readF 0 (1000000000000 - t) l f).2.2).2.1 (readF 0 1000000000 (readF 0 (1000000000000 - t) l f).2.1 (readF 0 (1000000000000 - t) l f).2.2).2.2).2.1 (readF 0 7 (readF 0 1000000000 (readF 0 (1000000000000 - t) l f).2.1 (readF 0 (1000000000000 - t) l f).2.2).2.1 (readF 0 1000000000 (readF 0 (1000000000000 - t) l f).2.1 (readF 0 (1000000000000 - t) l f).2.2).2.2).2.2).2.2
  omega

set_option maxRecDepth 100000 in
set_option maxHeartbeats 4000000 in
theorem rRecs_any (rb g : Nat) (l : List Int) (w : World) (h : RdP w rb g l false) :
    Calls Try.prog 37 #[.pointer (some ⟨rb, 0, none⟩)] w fun e w' => ∃ lv L, e = .returned lv ∧ Only (· = rb) w w' ∧ RdP w' rb g (decRF l).2.1 (decRF l).2.2 ∧ AllR w' w.heap.size lv L (decRF l).1 ∧ ApartR L := by
  have H := hide h
  have hrl := h.lt
  have hgl := h.glt
  have g1 := readF_le 0 1000 (by omega) l false
  have HE : Hid (decRF l = recsRF (readF 0 1000 l false).1.toNat 0 (readF 0 1000 l false).2.1 (readF 0 1000 l false).2.2) := by show _ = _; rfl
  generalize decRF l = out at HE ⊢
  generalize hA : readF 0 1000 l false = A at HE g1
  obtain ⟨v1, l1, f1⟩ := A
  simp only at HE g1
  obtain ⟨N, rfl⟩ := Int.eq_ofNat_of_zero_le (show 0 ≤ v1 by omega)
  rw [Int.toNat_natCast] at HE
  have hN : N ≤ 1000 := by omega
  have HA := hide hA
  clear h hA g1
  go_enter Try.func37, Try.ntmps37
  go_wp2_with fail
  refine (rNum_any rb g l false _ _ w H.out).mono ?_
  rintro e w1 ⟨rfl, ho1, hr1⟩
  rw [HA.out] at hr1 ⊢
  simp only at hr1 ⊢
  have HO1 := hide ho1
  have HR1 := hide hr1
  clear ho1 hr1
  go_wp2_with fail
  go_loopg [3, 4, 8] (N + 3) (fun gf s3 s4 s8 wx => ∃ (i : Nat) (lv : Value) (t : Int) (L : List RecC) (rs : List Rec) (lk : List Int) (fk : Bool), s8 = .int .i64 i ∧ s3 = lv ∧ s4 = .int .i64 t ∧ N - i + 2 ≤ gf ∧ i ≤ N ∧ 0 ≤ t ∧ t ≤ 1000000000000 ∧ Hid (L.length = i ∧ Only (· = rb) w wx ∧ RdP wx rb g lk fk ∧ AllR wx w.heap.size lv L rs ∧ ApartR L ∧ rs ++ (recsRF (N - i) t lk fk).1 = out.1 ∧ (recsRF (N - i) t lk fk).2 = out.2))
  case atStart => exact ⟨0, _, 0, [], [], l1, f1, rfl, rfl, rfl, by omega, by omega, by omega, by omega, rfl, HO1.out, HR1.out, AllR.nil _ _, by intro j k x y b hx; simp at hx, by rw [HE.out]; simp, by rw [HE.out]; simp⟩
  case round =>
    obtain ⟨i, lv, t, L, rs, lk, fk, rfl, rfl, rfl, hgf, hi, ht0, ht1, hI⟩ := hrel
    by_cases hlt : i < N
    · have d1 : decide ((i : Int) < (N : Int)) = true := by simp; omega
      have hw : IntKind.i64.wrap ((i : Int) + 1) = (i : Int) + 1 := by rw [IntKind.wrap_i64]; omega
      obtain ⟨hLi, hO, hR, hA, hAp, hq1, hq2⟩ := hI.out
      rw [show N - i = (N - (i + 1)) + 1 by omega, recsRF] at hq1 hq2
      simp only at hq1 hq2
      have hLl : L.length + 1 ≤ 1000 := by omega
      have HLi := hide hLi
      have HO := hide hO
      have HR := hide hR
      have HA2 := hide hA
      have HAp := hide hAp
      have Hq1 := hide hq1
      have Hq2 := hide hq2
      have hzr := hO.size
      have htm := recRF_time t lk fk ⟨ht0, ht1⟩
      clear hLi hO hR hA hAp hq1 hq2 hI
      obtain ⟨sa0, sc0, hlv⟩ := owns_form1 HA2.out.row
      subst hlv
      go_wp2_with fail
      refine (rRec_any rb g lk fk t wr HR.out ⟨ht0, ht1⟩).mono ?_
      rintro e w2 ⟨sa, sc, rfl, ho2, hr2, hrow2⟩
      generalize recRF t lk fk = o at Hq1 Hq2 htm hr2 hrow2 ⊢
      obtain ⟨⟨⟨rt, rn, rk, re⟩, told⟩, l2, f2⟩ := o
      simp only at Hq1 Hq2 htm hr2 hrow2 ⊢
      have hz2 := ho2.size
      have HA3 : Hid (AllR w2 w.heap.size (.slice sa0 L.length sc0) L rs) := HA2.out.only ho2 (fun b hb hc => by have := (HA2.out.lt b hb).1; omega)
      have HO2 := hide (HO.out.trans ho2)
      have HR2 := hide hr2
      have Hrow2 := hide hrow2
      clear ho2 hr2 hrow2
      obtain ⟨W3, hW3⟩ : ∃ W3, W3 = (w2.alloc (.cells #[.int .i64 rn, .int .i64 rt, .int .i64 rk, .int .i64 re, .slice sa told.length sc] 36)).alloc (.cells #[.int .i64 rn, .int .i64 rt, .int .i64 rk, .int .i64 re, .slice sa told.length sc] 36) := ⟨_, rfl⟩
      have hb3 : Below w2.heap.size w2 W3 := by rw [hW3]; exact ((Below.refl _ _).alloc (Nat.le_refl _) _).alloc (by simp) _
      have hz3 : W3.heap.size = w2.heap.size + 2 := by rw [hW3]; simp
      have x1 : W3.cell? ⟨w2.heap.size, 1, none⟩ = some (.int .i64 rt) := by rw [hW3]; simp [go_sem]
      have HsR : Hid (RowAt W3 (w2.heap.size + 1) 0 (RecC.cells ⟨⟨rt, rn, rk, re⟩, sa, told.length, sc⟩)) := by
        intro j u hu
        have hj : j < 5 := by have := (List.getElem?_eq_some_iff.1 hu).1; simpa [RecC.cells] using this
        have : j = 0 ∨ j = 1 ∨ j = 2 ∨ j = 3 ∨ j = 4 := by omega
        rcases this with rfl | rfl | rfl | rfl | rfl <;> simp [RecC.cells] at hu <;> subst hu <;> rw [hW3] <;> simp [go_sem]
      have HA4 := hide (HA3.out.only (Only.new (S := fun _ => False) hb3) (by simp))
      have Hrow4 := hide (owns_keep Hrow2.out (Only.new (S := fun _ => False) hb3) (by simp))
      have HB3 := hide hb3
      have hzl : ∀ b, some b = (Value.slice sa0 L.length sc0).ownBlock → b < wr.heap.size := fun b hb => (HA2.out.lt b (.inl hb)).2
      have Hzl := hide hzl
      clear hb3 hzl
      go_wp2_with (at_builtin; rw [← hW3]; refine wpList_append_src rfl (.tmp 13) (.tmp 15) 29 rfl w.heap.size 36 (.agg #[.int .i64 0, .int .i64 0, .int .i64 0, .int .i64 0, .slice none 0 0]) 5 56 Try.underlying29 Try.infoR rfl (by omega) _ L.length (recCells L) rfl HA4.out.row _ 1 (RecC.cells ⟨⟨rt, rn, rk, re⟩, sa, told.length, sc⟩) rfl (.inr (.inl ⟨w2.heap.size + 1, 0, _, rfl, HsR.out⟩)) rfl ?_ (by omega) (by omega) (by omega) ?_)
      · intro u hu
        simp [RecC.cells] at hu
        rcases hu with rfl | rfl | rfl | rfl | rfl <;> rfl
      intro v5 w5 hown5 hgr5 hwh5
      rw [← hW3] at hgr5
      have hwh6 : v5.ownBlock = (Value.slice sa0 L.length sc0).ownBlock ∨ v5.ownBlock = some W3.heap.size := by rw [hz3]; exact hwh5.out
      have ho5 := only_of_grown hgr5.out
      have hnl : ∀ b, some b = (Value.slice sa0 L.length sc0).ownBlock → w.heap.size ≤ b ∧ b < wr.heap.size := fun b hb => ⟨(HA4.out.lt b (.inl hb)).1, Hzl.out b hb⟩
      have y1 := ho5.at x1 (fun hc => by have := hnl _ hc; omega)
      have HA5 : Hid (AllR w5 w.heap.size v5 (L ++ [⟨⟨rt, rn, rk, re⟩, sa, told.length, sc⟩]) (rs ++ [⟨⟨rt, rn, rk, re⟩, told⟩])) :=
        HA4.out.snoc (x := ⟨⟨rt, rn, rk, re⟩, sa, told.length, sc⟩) (r := ⟨⟨rt, rn, rk, re⟩, told⟩) rfl rfl (owns_mono Hrow4.out hzr) hgr5.out hown5.out hwh6 (fun b hb hc => by have := (Hrow4.out.lt b hb.symm).1; have := Hzl.out b hc; omega)
      have HAp5 : Hid (ApartR (L ++ [⟨⟨rt, rn, rk, re⟩, sa, told.length, sc⟩])) := HAp.out.snoc HA2.out (fun b hb => (Hrow4.out.lt b hb.symm).1)
      have HO5 : Hid (Only (· = rb) w w5) := (HO2.out.trans (Only.new HB3.out)).chain ho5 (fun k hk hc => by have := hnl _ hc; omega)
      have HR5 : Hid (RdP w5 rb g l2 f2) := (HR2.out.only (Only.new (S := fun _ => False) HB3.out) (by simp) (by simp)).only ho5 (fun hc => by have := hnl _ hc; omega) (fun hc => by have := hnl _ hc; omega)
      obtain ⟨sa5, sc5, rfl⟩ := owns_form1 hown5.out
      clear ho5 x1 hW3 hgr5 hown5 hwh5 hwh6 hnl
      go_wp2_with fail
      go_roundg (N - (i + 1) + 2)
      case measure => omega
      case rel => exact ⟨i + 1, _, rt, _, _, l2, f2, by go_num, rfl, rfl, Nat.le_refl _, by omega, by omega, by omega, by simp [HLi.out], HO5.out, HR5.out, HA5.out, HAp5.out, by rw [← Hq1.out]; simp, Hq2.out⟩
    · have d1 : decide ((i : Int) < (N : Int)) = false := by simp; omega
      obtain ⟨hLi, hO, hR, hA, hAp, hq1, hq2⟩ := hI.out
      rw [show N - i = 0 by omega] at hq1 hq2
      simp only [recsRF, List.append_nil] at hq1 hq2
      obtain ⟨o1, o2, o3⟩ := out
      simp only [Prod.mk.injEq] at hq1 hq2
      obtain ⟨rfl, rfl⟩ := hq2
      subst hq1
      have HO := hide hO
      have HR := hide hR
      have HA2 := hide hA
      have HAp := hide hAp
      clear hLi hO hR hA hAp hI
      go_wp2_with fail
      go_ret
      exact ⟨_, rfl, HO.out, HR.out, L, HA2.out, HAp.out⟩

/-- Bytes as they lie (nothing is asked of where fewer than eight do). -/
structure BytesV (w : World) (sa : Option Addr) (cap : Nat) (l : List Int) : Prop where
  len : l.length ≤ 1000000000000000
  cap_ : l.length ≤ cap
  bytes : ∀ b ∈ l, 0 ≤ b ∧ b < 256
  row : 8 ≤ l.length → ∃ g off, sa = some ⟨g, off, none⟩ ∧ RowAt w g off (byteV l) ∧ g < w.heap.size
theorem BytesV.below {w w' : World} {sa : Option Addr} {cap : Nat} {l : List Int} (h : BytesV w sa cap l) (hb : Below w.heap.size w w') : BytesV w' sa cap l := by
  refine ⟨h.len, h.cap_, h.bytes, fun h8 => ?_⟩
  obtain ⟨g, off, rfl, h1, h2⟩ := h.row h8
  exact ⟨g, off, rfl, h1.below hb h2, Nat.lt_of_lt_of_le h2 hb.size⟩
theorem BytesV.glt {w : World} {g off cap : Nat} {l : List Int} (h : BytesV w (some ⟨g, off, none⟩) cap l) (h8 : 8 ≤ l.length) : g < w.heap.size := by
  obtain ⟨g', off', e, _, h2⟩ := h.row h8
  simp only [Option.some.injEq, Addr.mk.injEq] at e
  omega
theorem openAny (sa : Option Addr) (cap : Nat) (hd l : List Int) (w : World) (h : BytesV w sa cap l) (s : ByteArray) (hs : s = strW hd) (hhl : hd.length = 4) (hhb : ∀ b ∈ hd, 0 ≤ b ∧ b < 256) :
    Calls Try.prog 33 #[.string s, .slice sa l.length cap] w fun e w' => ∃ p, e = .returned (.tuple #[.pointer p, .int .i64 (openE hd l)]) ∧ Below w.heap.size w w' ∧ (openE hd l ≠ 0 → p = none) ∧ (openE hd l = 0 → ∃ rb g, p = some ⟨rb, 0, none⟩ ∧ w.heap.size ≤ rb ∧ (∃ off, sa = some ⟨g, off, none⟩) ∧ RdP w' rb g (openL l) false) := by
  by_cases h8 : l.length < 8
  · have hE : openE hd l = 4 := by unfold openE; rw [if_pos (.inl h8)]
    rw [hE]
    refine (open_short sa l.length cap s w (by rw [hs]; simp [strW, ByteArray.size, hhl]) h8).mono ?_
    rintro e w' ⟨rfl, hb⟩
    exact ⟨none, rfl, hb, fun _ => rfl, fun h => by cases h⟩
  · obtain ⟨g, off, rfl, h1, h2⟩ := h.row (by omega)
    refine (open_any g off cap hd l w h1 h.cap_ h.bytes h.len s hs hhl hhb h2).mono ?_
    rintro e w' ⟨p, rfl, hb, h3, h4⟩
    refine ⟨p, rfl, hb, h3, fun h0 => ?_⟩
    obtain ⟨rb, h5, h6, h7⟩ := h4 h0
    exact ⟨rb, g, h5, h6, ⟨off, rfl⟩, h7⟩

def decOk (l : List Int) : Bool := !(decRF l).2.2 && (decRF l).2.1.isEmpty
def decE (l : List Int) : Int := if openE [84, 77, 82, 1] l ≠ 0 then openE [84, 77, 82, 1] l else if decOk (openL l) then 0 else 4

set_option maxRecDepth 100000 in
set_option maxHeartbeats 1000000 in
theorem decode_any (sa : Option Addr) (cap : Nat) (l : List Int) (w : World) (h : BytesV w sa cap l) :
    Calls Try.prog 19 #[.slice sa l.length cap] w fun e w' => ∃ v, e = .returned (.tuple #[v, .int .i64 (decE l)]) ∧ Below w.heap.size w w' ∧ (decE l ≠ 0 → v = .slice none 0 0) ∧ (decE l = 0 → ∃ L, AllR w' w.heap.size v L (decRF (openL l)).1 ∧ ApartR L) := by
  have H := hide h
  have HE : Hid (decE l = if openE [84, 77, 82, 1] l ≠ 0 then openE [84, 77, 82, 1] l else if decOk (openL l) then 0 else 4) := by show _ = _; rfl
  clear h
  go_enter Try.func19, Try.ntmps19
  go_wp2_with fail
  refine (openAny sa cap [84, 77, 82, 1] l w H.out _ ?_ rfl (by intro b hb; simp at hb; omega)).mono ?_
  · rfl
  rintro e w1 ⟨p, rfl, hb1, hp1, hp2⟩
  have HB1 := hide hb1
  have hz1 := hb1.size
  by_cases h0 : openE [84, 77, 82, 1] l = 0
  · obtain ⟨rb, g, rfl, h1r, h1g, hrd⟩ := hp2 h0
    have HR := hide hrd
    rw [h0] at HE ⊢
    simp only [ne_eq, not_true_eq_false, if_false] at HE
    clear hp1 hp2 hrd hb1
    go_wp2_with fail
    refine (rRecs_any rb g (openL l) w1 HR.out).mono ?_
    rintro e w2 ⟨lv, L, rfl, ho2, hr2, hA2, hAp⟩
    have hz2 := ho2.size
    obtain ⟨sa2, sc2, hlv⟩ := owns_form1 hA2.row
    subst hlv
    have HR2 := hide hr2
    have HA2 := hide hA2
    have HAp := hide hAp
    have HB2 : Hid (Below w.heap.size w w2) := HB1.out.trans (ho2.below hz1 (fun k hk hc => by omega))
    clear ho2 hr2 hA2 hAp
    go_wp2_with fail
    refine (rEnd_any rb g _ _ w2 HR2.out).mono ?_
    rintro e w3 ⟨rfl, hb3⟩
    have HB3 : Hid (Below w.heap.size w w3) := HB2.out.trans (hb3.mono (by omega))
    have HA3 := hide (HA2.out.only (Only.new (S := fun _ => False) hb3) (by simp))
    have hdo : (!(decRF (openL l)).2.2 && (decRF (openL l)).2.1.isEmpty) = decOk (openL l) := rfl
    rw [hdo]
    clear hb3 hdo
    rcases hok : decOk (openL l) with _ | _
    · have hE : decE l = 4 := by rw [HE.out, hok]; rfl
      go_wp2_with fail
      go_ret2
      rw [hE]
      exact ⟨_, rfl, HB3.out, fun _ => rfl, fun h => by cases h⟩
    · have hE : decE l = 0 := by rw [HE.out, hok]; rfl
      go_wp2_with fail
      go_ret2
      rw [hE]
      refine ⟨_, rfl, HB3.out, fun h => absurd rfl h, fun _ => ⟨L, ?_, HAp.out⟩⟩
      have := HA3.out
      obtain ⟨h1, h2, h3, h4⟩ := this
      refine ⟨h1, owns_mono h2 hz1, fun j x r hx hr => ?_, h4⟩
      obtain ⟨q1, q2, q3⟩ := h3 j x r hx hr
      exact ⟨q1, q2, owns_mono q3 hz1⟩
  · obtain rfl := hp1 h0
    have d0 : (openE [84, 77, 82, 1] l != 0) = true := by simpa using h0
    have hE : decE l = openE [84, 77, 82, 1] l := by rw [HE.out, if_pos h0]
    have HE2 := hide hE
    clear hp1 hp2 hb1 HE hE
    go_wp2_with fail
    go_ret2
    rw [HE2.out]
    exact ⟨_, rfl, HB1.out, fun _ => rfl, fun h => absurd h h0⟩
end Go.Proofs.Ytndlmgocldckfaa
