import Derived.Test.YtndlmgocldckfaaRcA
import Derived.Test.YtndlmgocldckfaaWrZ
import Derived.Test.YtndlmgocldckfaaRcZ
import Derived.Test.YtndlmgocldckfaaRdZ
import Derived.Test.YtndlmgocldckfaaKxZ
import Derived.Deep.CutBlock
import Derived.WalkSpells
import Derived.Test.YtndlmgocldckfaaOpnA
import Derived.Test.YtndlmgocldckfaaRows
import Derived.WalkKit
import Derived.ProofKit
import Derived.OpenShut
import Derived.ChangeOld
import Derived.SizedLaws
import Derived.Below
namespace Go.Proofs.Ytndlmgocldckfaa
open Go.RowKit
set_option linter.unusedVariables false
set_option linter.unusedSimpArgs false

/-! Compare. -/

def recEq (a b : Rec) : Bool := decide (a.e.number = b.e.number) && (decide (a.e.time = b.e.time) && (decide (a.e.kind = b.e.kind) && (decide (a.e.entity = b.e.entity) && decide (a.told = b.told))))
def cmpF : Nat → List Rec → List Rec → Int
  | i, a :: l, b :: m => if recEq a b then cmpF (i + 1) l m else (i : Int)
  | _, [], [] => -1
  | i, [], _ :: _ => (i : Int)
  | i, _ :: _, [] => (i : Int)
theorem recEq_iff (a b : Rec) : recEq a b = true ↔ a = b := by
  obtain ⟨⟨a1, a2, a3, a4⟩, a5⟩ := a
  obtain ⟨⟨b1, b2, b3, b4⟩, b5⟩ := b
  simp [recEq]
  constructor
  · rintro ⟨h1, h2, h3, h4, h5⟩; exact ⟨⟨h2, h1, h3, h4⟩, h5⟩
  · rintro ⟨⟨h1, h2, h3, h4⟩, h5⟩; exact ⟨h2, h1, h3, h4, h5⟩

theorem cmpF_step (a b : List Rec) (i : Nat) (h1 : i < a.length) (h2 : i < b.length) : cmpF i (a.drop i) (b.drop i) = if recEq a[i] b[i] then cmpF (i + 1) (a.drop (i + 1)) (b.drop (i + 1)) else (i : Int) := by
  rw [List.drop_eq_getElem_cons h1, List.drop_eq_getElem_cons h2, cmpF]
theorem cmpF_end (a b : List Rec) (i : Nat) (h : i = min a.length b.length) : cmpF i (a.drop i) (b.drop i) = if a.length = b.length then (-1 : Int) else (i : Int) := by
  by_cases e : a.length = b.length
  · rw [if_pos e, List.drop_eq_nil_of_le (by omega), List.drop_eq_nil_of_le (by omega), cmpF]
  · rw [if_neg e]
    by_cases h2 : a.length < b.length
    · have e1 : a.drop i = [] := List.drop_eq_nil_of_le (by omega)
      rw [e1, List.drop_eq_getElem_cons (l := b) (by omega), cmpF]
    · have e1 : b.drop i = [] := List.drop_eq_nil_of_le (by omega)
      rw [e1, List.drop_eq_getElem_cons (l := a) (by omega), cmpF]

set_option maxRecDepth 100000 in
set_option maxHeartbeats 1000000 in
theorem eqInts_any (sa sb : Option Addr) (ca cb : Nat) (l m : List Int) (w : World) (h1 : ToldIn w sa l) (h2 : ToldIn w sb m) (hl : l.length ≤ 1000000000000000) :
    Calls Try.prog 60 #[.slice sa l.length ca, .slice sb m.length cb] w fun e w' => e = .returned (.bool (decide (l = m))) ∧ Below w.heap.size w w' := by
  have H1 := hide h1
  have H2 := hide h2
  clear h1 h2
  by_cases hlen : l.length = m.length
  rotate_left
  · have d0 : ((l.length : Int) != (m.length : Int)) = true := by simpa using (by omega : ¬ (l.length : Int) = (m.length : Int))
    have hne : decide (l = m) = false := by simp; intro hc; exact hlen (by rw [hc])
    rw [hne]
    go_enter Try.func60, Try.ntmps60
    go_wp2_with fail
    go_ret
    exact ⟨rfl, Below.refl _ _⟩
  rw [← hlen]
  have Hlen := hide hlen
  clear hlen
  go_enter Try.func60, Try.ntmps60
  go_wp2_with fail
  go_loopg [13] (l.length + 3) (fun g s13 wr => ∃ (i : Nat), s13 = .int .i64 i ∧ l.length - i + 2 ≤ g ∧ i ≤ l.length ∧ Hid (Below w.heap.size w wr ∧ l.take i = m.take i))
  case atStart => exact ⟨0, rfl, by omega, by omega, Below.refl _ _, by simp⟩
  case round =>
    obtain ⟨i, rfl, hg, hi, hI⟩ := hrel
    by_cases hlt : i < l.length
    · have d1 : decide ((i : Int) < (l.length : Int)) = true := by simp; omega
      have hii : (i : Int) < (l.length : Int) := by omega
      have hw : IntKind.i64.wrap ((i : Int) + 1) = (i : Int) + 1 := by rw [IntKind.wrap_i64]; omega
      have hlm : i < m.length := by have := Hlen.out; omega
      obtain ⟨g1, o1, rfl, c1⟩ := H1.out i l[i] (List.getElem?_eq_getElem hlt)
      obtain ⟨g2, o2, rfl, c2⟩ := H2.out i m[i] (List.getElem?_eq_getElem hlm)
      replace c1 := below_at hI.out.1 c1 (lt_of_cell c1)
      replace c2 := below_at hI.out.1 c2 (lt_of_cell c2)
      have HN : Hid (¬ l[i] = m[i] → decide (l = m) = false) := by
        intro hne
        simp only [decide_eq_false_iff_not]
        intro hc
        subst hc
        exact hne rfl
      have HY : Hid (l[i] = m[i] → l.take (i + 1) = m.take (i + 1)) := by
        intro he
        rw [List.take_succ_eq_append_getElem hlt, List.take_succ_eq_append_getElem hlm, hI.out.2, he]
      generalize l[i] = x at c1 HN HY
      generalize m[i] = y at c2 HN HY
      by_cases hxy : x = y
      · subst hxy
        have hT := HY.out rfl
        have HT := hide hT
        clear hT HN HY
        go_wp2_with fail
        go_quiet (fail)
        go_wp2_with fail
        go_roundg (l.length - (i + 1) + 2)
        case measure => omega
        case rel => exact ⟨i + 1, by go_num, Nat.le_refl _, by omega, below_drewN hI.out.1 _, HT.out⟩
      · have hne : (x != y) = true := by simpa using hxy
        have hF := HN.out hxy
        have HF := hide hF
        clear hF HN HY
        go_wp2_with fail
        go_quiet (fail)
        go_wp2_with fail
        go_ret
        exact ⟨by rw [HF.out]; rfl, below_drewN hI.out.1 _⟩
    · have d1 : decide ((i : Int) < (l.length : Int)) = false := by simp; omega
      have he : l = m := by
        have h1 := hI.out.2
        rw [List.take_of_length_le (by omega), List.take_of_length_le (by have := Hlen.out; omega)] at h1
        exact h1
      have hd : decide (l = m) = true := by simpa using he
      have Hd := hide hd
      clear he hd
      go_wp2_with fail
      go_ret
      exact ⟨by rw [Hd.out]; rfl, hI.out.1⟩

set_option maxRecDepth 100000 in
set_option maxHeartbeats 1000000 in
theorem sameRec_any (a b : Rec) (sa sb : Option Addr) (ca cb : Nat) (w : World) (h1 : ToldIn w sa a.told) (h2 : ToldIn w sb b.told) (hl : a.told.length ≤ 1000000000000000) :
    Calls Try.prog 39 #[.agg #[.int .i64 a.e.number, .int .i64 a.e.time, .int .i64 a.e.kind, .int .i64 a.e.entity, .slice sa a.told.length ca], .agg #[.int .i64 b.e.number, .int .i64 b.e.time, .int .i64 b.e.kind, .int .i64 b.e.entity, .slice sb b.told.length cb]] w fun e w' => e = .returned (.bool (recEq a b)) ∧ Below w.heap.size w w' := by
  have H1 := hide h1
  have H2 := hide h2
  obtain ⟨⟨a1, a2, a3, a4⟩, a5⟩ := a
  obtain ⟨⟨b1, b2, b3, b4⟩, b5⟩ := b
  simp only at H1 H2 hl ⊢
  have HF : Hid (recEq ⟨⟨a1, a2, a3, a4⟩, a5⟩ ⟨⟨b1, b2, b3, b4⟩, b5⟩ = (decide (a2 = b2) && (decide (a1 = b1) && (decide (a3 = b3) && (decide (a4 = b4) && decide (a5 = b5)))))) := by show _ = _; rfl
  obtain ⟨W1, hW1⟩ : ∃ W1, W1 = (w.alloc (.cells #[.int .i64 a2, .int .i64 a1, .int .i64 a3, .int .i64 a4, .slice sa a5.length ca] 36)).alloc (.cells #[.int .i64 b2, .int .i64 b1, .int .i64 b3, .int .i64 b4, .slice sb b5.length cb] 36) := ⟨_, rfl⟩
  have hb1 : Below w.heap.size w W1 := by rw [hW1]; exact ((Below.refl _ _).alloc (Nat.le_refl _) _).alloc (by simp) _
  have HB1 := hide hb1
  have HQ := hide (eqInts_any sa sb ca cb a5 b5 W1 (H1.out.below hb1) (H2.out.below hb1) hl)
  clear h1 h2 hb1
  by_cases e2 : a2 = b2
  rotate_left
  · have d : (a2 == b2) = false := by simpa using e2
    have hf : recEq ⟨⟨a1, a2, a3, a4⟩, a5⟩ ⟨⟨b1, b2, b3, b4⟩, b5⟩ = false := by rw [HF.out]; simp [e2]
    rw [hf]
    go_enter Try.func39, Try.ntmps39
    go_wp2_with fail
    go_ret
    exact ⟨rfl, by rw [← hW1]; exact HB1.out⟩
  by_cases e1 : a1 = b1
  rotate_left
  · have d : (a1 == b1) = false := by simpa using e1
    have hf : recEq ⟨⟨a1, a2, a3, a4⟩, a5⟩ ⟨⟨b1, b2, b3, b4⟩, b5⟩ = false := by rw [HF.out]; simp [e1]
    rw [hf]
    subst e2
    go_enter Try.func39, Try.ntmps39
    go_wp2_with fail
    go_ret
    exact ⟨rfl, by rw [← hW1]; exact HB1.out⟩
  by_cases e3 : a3 = b3
  rotate_left
  · have d : (a3 == b3) = false := by simpa using e3
    have hf : recEq ⟨⟨a1, a2, a3, a4⟩, a5⟩ ⟨⟨b1, b2, b3, b4⟩, b5⟩ = false := by rw [HF.out]; simp [e3]
    rw [hf]
    subst e2 e1
    go_enter Try.func39, Try.ntmps39
    go_wp2_with fail
    go_ret
    exact ⟨rfl, by rw [← hW1]; exact HB1.out⟩
  by_cases e4 : a4 = b4
  rotate_left
  · have d : (a4 == b4) = false := by simpa using e4
    have hf : recEq ⟨⟨a1, a2, a3, a4⟩, a5⟩ ⟨⟨b1, b2, b3, b4⟩, b5⟩ = false := by rw [HF.out]; simp [e4]
    rw [hf]
    subst e2 e1 e3
    go_enter Try.func39, Try.ntmps39
    go_wp2_with fail
    go_ret
    exact ⟨rfl, by rw [← hW1]; exact HB1.out⟩
  have hf : recEq ⟨⟨a1, a2, a3, a4⟩, a5⟩ ⟨⟨b1, b2, b3, b4⟩, b5⟩ = decide (a5 = b5) := by rw [HF.out]; simp [e1, e2, e3, e4]
  rw [hf]
  subst e2 e1 e3 e4
  generalize decide (a5 = b5) = q at HQ ⊢
  go_enter Try.func39, Try.ntmps39
  go_wp2_with (go_at_call 60; rw [← hW1]; refine HQ.out.mono ?_; rintro e w' ⟨rfl, hb'⟩)
  go_ret
  exact ⟨rfl, HB1.out.trans (hb'.mono HB1.out.size)⟩

set_option maxRecDepth 100000 in
set_option maxHeartbeats 1000000 in
theorem compare_any (a b : Option Addr) (ca cb : Nat) (ra rb : List Rec) (w : World) (h1 : RecIn w a ra) (h2 : RecIn w b rb) (hl : ra.length ≤ 1000000000000000) (hm : rb.length ≤ 1000000000000000) (ht : ∀ r ∈ ra, r.told.length ≤ 1000000000000000) :
    Calls Try.prog 20 #[.slice a ra.length ca, .slice b rb.length cb] w fun e w' => e = .returned (.int .i64 (cmpF 0 ra rb)) ∧ Below w.heap.size w w' := by
  have H1 := hide h1
  have H2 := hide h2
  have Ht := hide ht
  obtain ⟨n, hn⟩ : ∃ n, n = min ra.length rb.length := ⟨_, rfl⟩
  have hmin : min (ra.length : Int) (rb.length : Int) = (n : Int) := by omega
  have Hn := hide hn
  have hna : n ≤ ra.length := by omega
  have hnb : n ≤ rb.length := by omega
  clear h1 h2 ht hn
  have key : (ra.length ≤ rb.length ∧ n = ra.length) ∨ (rb.length < ra.length ∧ n = rb.length) := by have := Hn.out; omega
  clear hmin
  rcases key with ⟨hc, hnn⟩ | ⟨hc, hnn⟩
  all_goals
    have hci : (ra.length : Int) ≤ (rb.length : Int) ∨ (rb.length : Int) < (ra.length : Int) := by omega
    first
      | (have hmn : min (ra.length : Int) (rb.length : Int) = (ra.length : Int) := by omega)
      | (have hmn : min (ra.length : Int) (rb.length : Int) = (rb.length : Int) := by omega)
    have Hnn := hide hnn
    have Hc := hide hc
    clear hnn hci hc
    go_enter Try.func20, Try.ntmps20
    go_wp2_with fail
    clear hmn
    go_loopg [13] (n + 3) (fun g s13 wr => ∃ (i : Nat), s13 = .int .i64 i ∧ n - i + 2 ≤ g ∧ i ≤ n ∧ Hid (Below w.heap.size w wr ∧ cmpF i (ra.drop i) (rb.drop i) = cmpF 0 ra rb))
    case atStart => exact ⟨0, rfl, by omega, by omega, Below.refl _ _, by simp⟩
    case round =>
      obtain ⟨i, rfl, hg, hi, hI⟩ := hrel
      by_cases hlt : i < n
      · have hla : i < ra.length := by omega
        have hlb : i < rb.length := by omega
        have d1 : decide ((i : Int) < (ra.length : Int)) = true := by simp; omega
        have d2 : decide ((i : Int) < (rb.length : Int)) = true := by simp; omega
        have hia : (i : Int) < (ra.length : Int) := by omega
        have hib : (i : Int) < (rb.length : Int) := by omega
        have hw : IntKind.i64.wrap ((i : Int) + 1) = (i : Int) + 1 := by rw [IntKind.wrap_i64]; omega
        obtain ⟨g1, o1, sa, sca, rfl, c0, c1, c2, c3, c4, ct⟩ := (H1.out.below hI.out.1) i ra[i] (List.getElem?_eq_getElem hla)
        obtain ⟨g2, o2, sb, scb, rfl, e0, e1, e2, e3, e4, et⟩ := (H2.out.below hI.out.1) i rb[i] (List.getElem?_eq_getElem hlb)
        have htl := Ht.out ra[i] (List.getElem_mem hla)
        have HS : Hid (cmpF 0 ra rb = if recEq ra[i] rb[i] then cmpF (i + 1) (ra.drop (i + 1)) (rb.drop (i + 1)) else (i : Int)) := by show _ = _; rw [← hI.out.2]; exact cmpF_step ra rb i hla hlb
        have HX := hide (sameRec_any ra[i] rb[i] sa sb sca scb wr.drew (ct.below (Below.refl _ _).drew) (et.below (Below.refl _ _).drew) htl)
        generalize ra[i] = x at c0 c1 c2 c3 c4 HS HX
        generalize rb[i] = y at e0 e1 e2 e3 e4 HS HX
        obtain ⟨⟨xt, xn, xk, xe⟩, xl⟩ := x
        obtain ⟨⟨yt, yn, yk, ye⟩, yl⟩ := y
        simp only at c0 c1 c2 c3 c4 e0 e1 e2 e3 e4 HX
        generalize recEq ⟨⟨xt, xn, xk, xe⟩, xl⟩ ⟨⟨yt, yn, yk, ye⟩, yl⟩ = q at HS HX
        clear ct et htl
        go_wp2_with fail
        go_region_held3 (fun W' => W'.cell? ⟨g1, o1 + i * 5, none⟩ = some (.int .i64 xn) ∧ W'.cell? ⟨g1, o1 + i * 5 + 1, none⟩ = some (.int .i64 xt) ∧ W'.cell? ⟨g1, o1 + i * 5 + 2, none⟩ = some (.int .i64 xk) ∧ W'.cell? ⟨g1, o1 + i * 5 + 3, none⟩ = some (.int .i64 xe) ∧ W'.cell? ⟨g1, o1 + i * 5 + 4, none⟩ = some (.slice sa xl.length sca) ∧ W'.cell? ⟨g2, o2 + i * 5, none⟩ = some (.int .i64 yn) ∧ W'.cell? ⟨g2, o2 + i * 5 + 1, none⟩ = some (.int .i64 yt) ∧ W'.cell? ⟨g2, o2 + i * 5 + 2, none⟩ = some (.int .i64 yk) ∧ W'.cell? ⟨g2, o2 + i * 5 + 3, none⟩ = some (.int .i64 ye) ∧ W'.cell? ⟨g2, o2 + i * 5 + 4, none⟩ = some (.slice sb yl.length scb))
          (first | exact ⟨c0, c1, c2, c3, c4, e0, e1, e2, e3, e4⟩ | exact ⟨below_at hb2 c0 (lt_of_cell c0), below_at hb2 c1 (lt_of_cell c1), below_at hb2 c2 (lt_of_cell c2), below_at hb2 c3 (lt_of_cell c3), below_at hb2 c4 (lt_of_cell c4), below_at hb2 e0 (lt_of_cell e0), below_at hb2 e1 (lt_of_cell e1), below_at hb2 e2 (lt_of_cell e2), below_at hb2 e3 (lt_of_cell e3), below_at hb2 e4 (lt_of_cell e4)⟩)
          (first | (go_at_call 39; refine HX.out.mono ?_; rintro e' w2 ⟨rfl, hb2'⟩; (have hb2 : Below wr.heap.size wr w2 := (Below.refl _ _).drew.trans hb2')))
        have HB2 : Hid (Below w.heap.size w w2) := hI.out.1.trans (hb2.mono hI.out.1.size)
        clear hb2 hb2' HX c0 c1 c2 c3 c4 e0 e1 e2 e3 e4
        rcases q with _ | _
        · have hq := HS.out
          simp only [Bool.false_eq_true, if_false] at hq
          have Hq := hide hq
          clear hq
          go_wp2_with fail
          go_ret
          exact ⟨by rw [Hq.out]; rfl, HB2.out⟩
        · have hq := HS.out
          simp only [if_true] at hq
          have Hq := hide hq
          clear hq
          go_wp2_with fail
          go_roundg (n - (i + 1) + 2)
          case measure => omega
          case rel => exact ⟨i + 1, by go_num, Nat.le_refl _, by omega, HB2.out, Hq.out.symm⟩
      · have hq := hI.out.2
        rw [cmpF_end ra rb i (by have := Hn.out; omega)] at hq
        have Hq := hide hq
        first
          | (have d1 : ¬ i < ra.length := by (have := Hnn.out; omega))
          | (have d1 : ¬ i < rb.length := by (have := Hnn.out; omega))
        have Hin : Hid (i = n) := by (show _ = _; omega)
        by_cases hab : ra.length = rb.length
        · have d3 : ((ra.length : Int) == (rb.length : Int)) = true := by rw [beq_iff_eq]; omega
          have hz : cmpF 0 ra rb = -1 := by rw [← Hq.out, if_pos hab]
          have Hz := hide hz
          have Hab := hide hab
          clear hq hz hab
          go_wp2_with fail
          go_ret
          exact ⟨by rw [Hz.out]; rfl, hI.out.1⟩
        · have d3 : ((ra.length : Int) == (rb.length : Int)) = false := by rw [beq_eq_false_iff_ne]; omega
          have hz : cmpF 0 ra rb = (n : Int) := by rw [← Hq.out, if_neg hab, Hin.out]
          have Hz := hide hz
          have Hab := hide hab
          clear hq hz hab
          go_wp2_with fail
          go_ret
          exact ⟨by rw [Hz.out, Hnn.out]; rfl, hI.out.1⟩
end Go.Proofs.Ytndlmgocldckfaa

namespace Go.Proofs.Ytndlmgocldckfaa
open Go.RowKit
set_option linter.unusedVariables false
set_option linter.unusedSimpArgs false

/-! What is read is what would be written. -/

theorem numRF_inv : ∀ (l : List Int) (f i : Nat) (acc : Int), (∀ c ∈ l, 0 ≤ c ∧ c < 256) → (numRF f i acc l).2 ≠ 0 →
    ∃ m : Int, 0 ≤ m ∧ (0 < i → 0 < m) ∧ m < 128 ^ f ∧ (numRF f i acc l).1 = acc + m * 128 ^ i ∧ i < (numRF f i acc l).2 ∧ (numRF f i acc l).2 ≤ i + l.length ∧ ∀ k, f ≤ k + 1 → numF k m = l.take ((numRF f i acc l).2 - i)
  | [], f, i, acc, _, h => by cases f <;> simp [numRF] at h
  | c :: l, 0, i, acc, _, h => by simp [numRF] at h
  | c :: l, f + 1, i, acc, hb, h => by
    have hc := hb c (List.mem_cons_self ..)
    rw [numRF] at h ⊢
    by_cases h1 : c = 0 ∧ 0 < i
    · rw [if_pos h1] at h; simp at h
    rw [if_neg h1] at h ⊢
    by_cases h2 : c < 128
    · rw [if_pos h2]
      have hp : (0 : Int) < 128 ^ f := Int.pow_pos (by omega)
      refine ⟨c, hc.1, fun hi => by omega, by rw [Int.pow_succ]; omega, by simp only; rw [show c % 128 = c by omega], by simp, by simp, ?_⟩
      intro k hk
      simp only [Nat.add_sub_cancel_left, List.take_succ_cons, List.take_zero]
      cases k with
      | zero => rfl
      | succ k => rw [numF, if_neg (by omega)]
    · rw [if_neg h2] at h ⊢
      obtain ⟨m, m0, m1, m2, m3, m4, m5, m6⟩ := numRF_inv l f (i + 1) (acc + c % 128 * 128 ^ i) (fun x hx => hb x (List.mem_cons_of_mem _ hx)) h
      have m1 := m1 (by omega)
      refine ⟨c % 128 + m * 128, by omega, fun _ => by omega, ?_, ?_, by omega, by simp only [List.length_cons]; omega, ?_⟩
      · rw [Int.pow_succ]; omega
      · rw [m3, Int.pow_succ]
        generalize (128 : Int) ^ i = X
        rw [Int.add_mul, Int.mul_comm X 128, ← Int.mul_assoc]
        omega
      · intro k hk
        obtain ⟨k', rfl⟩ : ∃ k', k = k' + 1 := by
          cases k with
          | zero =>
            have : f = 0 := by omega
            subst this
            exfalso
            apply h
            cases l <;> rfl
          | succ k' => exact ⟨k', rfl⟩
        rw [numF, if_pos (by omega), show (c % 128 + m * 128) % 128 + 128 = c by omega, show (c % 128 + m * 128) / 128 = m by omega, m6 k' (by omega)]
        generalize (numRF f (i + 1) (acc + c % 128 * 128 ^ i) l).2 = sz at m4 m5
        obtain ⟨d, rfl⟩ : ∃ d, sz = i + 1 + d := ⟨sz - (i + 1), by omega⟩
        rw [show i + 1 + d - i = d + 1 by omega, show i + 1 + d - (i + 1) = d by omega, List.take_succ_cons]

theorem numR_inv {l : List Int} (hb : ∀ c ∈ l, 0 ≤ c ∧ c < 256) (h : (numR l).2 ≠ 0) : 0 ≤ (numR l).1 ∧ l = numB (numR l).1 ++ l.drop (numR l).2 := by
  obtain ⟨m, m0, _, m2, m3, m4, m5, m6⟩ := numRF_inv l 9 0 0 hb h
  unfold numR at *
  rw [m3]
  simp only [Int.pow_zero, Int.mul_one, Int.zero_add]
  refine ⟨m0, ?_⟩
  have := m6 9 (by omega)
  unfold numB
  rw [this, Nat.sub_zero, List.take_append_drop]

theorem readF_flt (low high : Int) (l : List Int) : (readF low high l true).2.2 = true := by simp [readF]
theorem readF_inv {low high v : Int} {l l1 : List Int} {f : Bool} (hb : ∀ c ∈ l, 0 ≤ c ∧ c < 256) (h : readF low high l f = (v, l1, false)) : f = false ∧ low ≤ v ∧ v ≤ high ∧ 0 ≤ v ∧ l = numB v ++ l1 := by
  unfold readF at h
  split at h
  · simp at h
  · rename_i hn
    simp only [not_or] at hn
    simp only [Prod.mk.injEq, and_true] at h
    obtain ⟨rfl, rfl⟩ := h
    obtain ⟨h1, h2⟩ := numR_inv hb hn.2.1
    exact ⟨by simpa using hn.1, by omega, by omega, h1, h2⟩
theorem readS_inv {v : Int} {l l1 : List Int} {f : Bool} (hb : ∀ c ∈ l, 0 ≤ c ∧ c < 256) (h : readS 1000000000 l f = (v, l1, false)) : f = false ∧ -1000000000 ≤ v ∧ v ≤ 1000000000 ∧ l = sgnB v ++ l1 := by
  unfold readS at h
  rcases hr : readF 0 (2 * 1000000000) l f with ⟨u, l', f'⟩
  rw [hr] at h
  simp only [Prod.mk.injEq] at h
  obtain ⟨rfl, rfl, rfl⟩ := h
  obtain ⟨h1, h2, h3, h4, h5⟩ := readF_inv hb hr
  have hs : sgnI (unsI u) = u ∧ -1000000000 ≤ unsI u ∧ unsI u ≤ 1000000000 := by
    unfold sgnI unsI
    by_cases ho : u % 2 = 1
    · rw [if_pos ho, if_pos (by omega)]; omega
    · rw [if_neg ho, if_neg (by omega)]; omega
  exact ⟨h1, hs.2.1, hs.2.2, by rw [sgnB, hs.1]; exact h5⟩
theorem suffix_bytes {a l l1 : List Int} (hb : ∀ c ∈ l, 0 ≤ c ∧ c < 256) (h : l = a ++ l1) : ∀ c ∈ l1, 0 ≤ c ∧ c < 256 := fun c hc => hb c (by rw [h]; exact List.mem_append_right _ hc)

theorem toldRF_inv : ∀ (n : Nat) (l ts l1 : List Int) (f : Bool), (∀ c ∈ l, 0 ≤ c ∧ c < 256) → toldRF n l f = (ts, l1, false) → f = false ∧ ts.length = n ∧ (∀ x ∈ ts, -1000000000 ≤ x ∧ x ≤ 1000000000) ∧ l = ts.flatMap sgnB ++ l1
  | 0, l, ts, l1, f, hb, h => by
    simp only [toldRF, Prod.mk.injEq] at h
    obtain ⟨rfl, rfl, rfl⟩ := h
    simp
  | n + 1, l, ts, l1, f, hb, h => by
    rcases hr : readS 1000000000 l f with ⟨v, l', f'⟩
    rcases ht : toldRF n l' f' with ⟨ts', l2, f2⟩
    simp only [toldRF, hr, ht, Prod.mk.injEq] at h
    obtain ⟨rfl, rfl, rfl⟩ := h
    have hb' : ∀ c ∈ l', 0 ≤ c ∧ c < 256 := by
      intro c hc
      refine hb c ?_
      unfold readS at hr
      simp only [Prod.mk.injEq] at hr
      unfold readF at hr
      split at hr
      · simp at hr; rw [hr.2.1]; exact hc
      · simp only [Prod.mk.injEq] at hr; rw [← hr.2.1] at hc; exact List.mem_of_mem_drop hc
    obtain ⟨rfl, q1, q2, q3⟩ := toldRF_inv n l' ts' l2 f' hb' ht
    obtain ⟨rfl, r1, r2, r3⟩ := readS_inv hb hr
    refine ⟨rfl, by simp [q1], ?_, ?_⟩
    · intro x hx
      rcases List.mem_cons.1 hx with rfl | hx
      · exact ⟨r1, r2⟩
      · exact q2 x hx
    · rw [r3, q3]; simp

theorem readF_bytes {low high : Int} {l : List Int} {f : Bool} (hb : ∀ c ∈ l, 0 ≤ c ∧ c < 256) : ∀ c ∈ (readF low high l f).2.1, 0 ≤ c ∧ c < 256 := by
  intro c hc
  refine hb c ?_
  unfold readF at hc
  split at hc
  · exact hc
  · exact List.mem_of_mem_drop hc

theorem recRF_inv {t : Int} {l l1 : List Int} {f : Bool} {r : Rec} (ht : 0 ≤ t) (hb : ∀ c ∈ l, 0 ≤ c ∧ c < 256) (h : recRF t l f = (r, l1, false)) : f = false ∧ recOkF t r = true ∧ l = recOne t r ++ l1 := by
  unfold recRF at h
  have b1 : ∀ c ∈ (readF 0 (1000000000000 - t) l f).2.1, 0 ≤ c ∧ c < 256 := readF_bytes hb
  rcases e1 : readF 0 (1000000000000 - t) l f with ⟨v1, m1, f1⟩
  rw [e1] at h b1
  simp only at h b1
  have b2 : ∀ c ∈ (readF 0 1000000000 m1 f1).2.1, 0 ≤ c ∧ c < 256 := readF_bytes b1
  rcases e2 : readF 0 1000000000 m1 f1 with ⟨v2, m2, f2⟩
  rw [e2] at h b2
  simp only at h b2
  have b3 : ∀ c ∈ (readF 0 7 m2 f2).2.1, 0 ≤ c ∧ c < 256 := readF_bytes b2
  rcases e3 : readF 0 7 m2 f2 with ⟨v3, m3, f3⟩
  rw [e3] at h b3
  simp only at h b3
  have b4 : ∀ c ∈ (readF 0 7 m3 f3).2.1, 0 ≤ c ∧ c < 256 := readF_bytes b3
  rcases e4 : readF 0 7 m3 f3 with ⟨v4, m4, f4⟩
  rw [e4] at h b4
  simp only at h b4
  have b5 : ∀ c ∈ (readF 0 16 m4 f4).2.1, 0 ≤ c ∧ c < 256 := readF_bytes b4
  rcases e5 : readF 0 16 m4 f4 with ⟨v5, m5, f5⟩
  rw [e5] at h b5
  simp only at h b5
  rcases e6 : toldRF v5.toNat m5 f5 with ⟨ts, m6, f6⟩
  rw [e6] at h
  simp only [Prod.mk.injEq] at h
  obtain ⟨rfl, rfl, rfl⟩ := h
  obtain ⟨rfl, q1, q2, q3⟩ := toldRF_inv _ _ _ _ _ b5 e6
  obtain ⟨rfl, r1, r2, r3, r4⟩ := readF_inv b4 e5
  obtain ⟨rfl, s1, s2, s3, s4⟩ := readF_inv b3 e4
  obtain ⟨rfl, t1, t2, t3, t4⟩ := readF_inv b2 e3
  obtain ⟨rfl, u1, u2, u3, u4⟩ := readF_inv b1 e2
  obtain ⟨rfl, w1, w2, w3, w4⟩ := readF_inv hb e1
  refine ⟨rfl, ?_, ?_⟩
  · simp only [recOkF, inB, valsF, Bool.and_eq_true, decide_eq_true_eq, List.all_eq_true]
    exact ⟨by omega, by omega, by omega, by omega, by omega, q2⟩
  · simp only [recOne]
    rw [w4, u4, t4, s4, r4, q3, show t + v1 - t = v1 by omega, show (ts.length : Int) = v5 by omega]
    simp

theorem recRF_bytes {t : Int} {l : List Int} {f : Bool} (hb : ∀ c ∈ l, 0 ≤ c ∧ c < 256) : ∀ c ∈ (recRF t l f).2.1, 0 ≤ c ∧ c < 256 := by
  have ht : ∀ (n : Nat) (l : List Int) (f : Bool), (∀ c ∈ l, 0 ≤ c ∧ c < 256) → ∀ c ∈ (toldRF n l f).2.1, 0 ≤ c ∧ c < 256 := by
    intro n
    induction n with
    | zero => intro l f h; exact h
    | succ n ih =>
      intro l f h
      simp only [toldRF]
      refine ih _ _ ?_
      unfold readS
      exact readF_bytes h
  unfold recRF
  exact ht _ _ _ (readF_bytes (readF_bytes (readF_bytes (readF_bytes (readF_bytes hb)))))

theorem recsRF_inv : ∀ (n : Nat) (t : Int) (l l1 : List Int) (f : Bool) (rs : List Rec), 0 ≤ t → (∀ c ∈ l, 0 ≤ c ∧ c < 256) → recsRF n t l f = (rs, l1, false) → f = false ∧ rs.length = n ∧ recsOkF t rs = true ∧ l = recB t rs ++ l1
  | 0, t, l, l1, f, rs, ht, hb, h => by
    simp only [recsRF, Prod.mk.injEq] at h
    obtain ⟨rfl, rfl, rfl⟩ := h
    simp [recsOkF, recB]
  | n + 1, t, l, l1, f, rs, ht, hb, h => by
    have hb' : ∀ c ∈ (recRF t l f).2.1, 0 ≤ c ∧ c < 256 := recRF_bytes hb
    have htt : t ≤ (recRF t l f).1.e.time := by
      have := readF_le 0 (1000000000000 - t) (by omega) l f
      simp only [recRF]
      omega
    rcases hr : recRF t l f with ⟨r, l', f'⟩
    rw [hr] at hb' htt
    simp only at hb' htt
    rcases hs : recsRF n r.e.time l' f' with ⟨rs', l2, f2⟩
    simp only [recsRF, hr, hs, Prod.mk.injEq] at h
    obtain ⟨rfl, rfl, rfl⟩ := h
    obtain ⟨rfl, q1, q2, q3⟩ := recsRF_inv n r.e.time l' l2 f' rs' (by omega) hb' hs
    obtain ⟨rfl, p1, p2⟩ := recRF_inv ht hb hr
    exact ⟨rfl, by simp [q1], by simp [recsOkF, p1, q2], by rw [p2, q3, recB]; simp⟩

theorem decRF_inv {l : List Int} (hb : ∀ c ∈ l, 0 ≤ c ∧ c < 256) (h : decOk l = true) : areF (decRF l).1 = true ∧ encT (decRF l).1 = l := by
  unfold decOk at h
  simp only [Bool.and_eq_true, Bool.not_eq_true', List.isEmpty_iff] at h
  obtain ⟨h1, h2⟩ := h
  have hb1 : ∀ c ∈ (readF 0 1000 l false).2.1, 0 ≤ c ∧ c < 256 := readF_bytes hb
  unfold decRF at *
  rcases e1 : readF 0 1000 l false with ⟨v, l1, f1⟩
  rw [e1] at h1 h2 hb1
  simp only at h1 h2 hb1 ⊢
  rcases e2 : recsRF v.toNat 0 l1 f1 with ⟨rs, l2, f2⟩
  rw [e2] at h1 h2
  simp only at h1 h2 ⊢
  subst h1 h2
  obtain ⟨rfl, q1, q2, q3⟩ := recsRF_inv _ _ _ _ _ _ (by omega) hb1 e2
  obtain ⟨_, r1, r2, r3, r4⟩ := readF_inv hb e1
  refine ⟨?_, ?_⟩
  · simp only [areF, Bool.and_eq_true, decide_eq_true_eq]
    exact ⟨by omega, q2⟩
  · unfold encT
    rw [r4, q3, show (rs.length : Int) = v by omega]
    simp

/-- Bytes that Decode takes are what Encode makes of what it gives. -/
theorem dec_enc {l : List Int} (hb : ∀ c ∈ l, 0 ≤ c ∧ c < 256) (h : decE l = 0) : areF (decRF (openL l)).1 = true ∧ encF (decRF (openL l)).1 = l := by
  unfold decE at h
  by_cases h0 : openE [84, 77, 82, 1] l = 0
  rotate_left
  · rw [if_pos h0] at h; exact absurd h h0
  rw [if_neg (by simpa using h0)] at h
  have hok : decOk (openL l) = true := by
    rcases hd : decOk (openL l) with _ | _
    · rw [hd] at h; simp at h
    · rfl
  obtain ⟨h1, h2⟩ := decRF_inv (fun c hc => hb c (by unfold openL at hc; exact List.mem_of_mem_take (List.mem_of_mem_drop hc))) hok
  refine ⟨h1, ?_⟩
  unfold openE at h0
  by_cases a1 : l.length < 8 ∨ l.take 4 ≠ [84, 77, 82, 1]
  · rw [if_pos a1] at h0; simp at h0
  rw [if_neg a1] at h0
  by_cases a2 : l.drop (l.length - 4) ≠ sumB (l.take (l.length - 4))
  · rw [if_pos a2] at h0; simp at h0
  simp only [not_or, Nat.not_lt, ne_eq, Decidable.not_not] at a1 a2
  have hh : encH (decRF (openL l)).1 = l.take (l.length - 4) := by
    unfold encH
    rw [h2, openL, ← a1.2]
    have e4 : l.take 4 = (l.take (l.length - 4)).take 4 := by rw [List.take_take, Nat.min_eq_left (by omega)]
    rw [e4, List.take_append_drop]
  unfold encF
  rw [hh, ← a2, List.take_append_drop]

/-! What is written is read. -/

theorem toldRF_sgnB : ∀ (ts : List Int) (rest : List Int), (∀ x ∈ ts, -1000000000 ≤ x ∧ x ≤ 1000000000) → toldRF ts.length (ts.flatMap sgnB ++ rest) false = (ts, rest, false)
  | [], rest, _ => by simp [toldRF]
  | x :: ts, rest, h => by
    have h1 := readS_sgnB (h x (List.mem_cons_self ..)) (ts.flatMap sgnB ++ rest)
    have h2 := toldRF_sgnB ts rest (fun y hy => h y (List.mem_cons_of_mem _ hy))
    simp only [List.length_cons, List.flatMap_cons, List.append_assoc, toldRF]
    rw [h1]
    simp only
    rw [h2]
theorem recRF_recOne {t : Int} {r : Rec} (ht : 0 ≤ t) (h : recOkF t r = true) (rest : List Int) : recRF t (recOne t r ++ rest) false = (r, rest, false) := by
  obtain ⟨⟨o1, o2, o3, o4, o5, o6⟩, o7⟩ := recOkF_iff h
  unfold recRF recOne
  simp only [List.append_assoc]
  rw [readF_numB (by omega) (by omega)]
  simp only
  rw [readF_numB (by omega) (by omega)]
  simp only
  rw [readF_numB (by omega) (by omega)]
  simp only
  rw [readF_numB (by omega) (by omega)]
  simp only
  rw [readF_numB (by omega) (by omega)]
  simp only [Int.toNat_natCast]
  rw [toldRF_sgnB r.told rest o6]
  simp only
  rw [show t + (r.e.time - t) = r.e.time by omega]
theorem recsRF_recB : ∀ (rs : List Rec) (t : Int) (rest : List Int), 0 ≤ t → recsOkF t rs = true → recsRF rs.length t (recB t rs ++ rest) false = (rs, rest, false)
  | [], t, rest, _, _ => by simp [recsRF, recB]
  | r :: rs, t, rest, ht, h => by
    simp only [recsOkF, Bool.and_eq_true] at h
    have h1 := recRF_recOne ht h.1 (recB r.e.time rs ++ rest)
    have h2 := recsRF_recB rs r.e.time rest (by have := (recOkF_iff h.1).2; omega) h.2
    simp only [List.length_cons, recB, List.append_assoc, recsRF]
    rw [h1]
    simp only
    rw [h2]
theorem decRF_encT {rs : List Rec} (h : areF rs = true) : decRF (encT rs) = (rs, [], false) := by
  obtain ⟨h1, h2⟩ := areF_len h
  unfold decRF encT
  rw [readF_numB (by omega) (by omega)]
  simp only [Int.toNat_natCast]
  have := recsRF_recB rs 0 [] (by omega) h2
  simpa using this
/-- What Encode makes of records is read as they are. -/
theorem enc_dec {rs : List Rec} (h : areF rs = true) : decE (encF rs) = 0 ∧ (decRF (openL (encF rs))).1 = rs := by
  have e1 : openL (encF rs) = encT rs := openL_ok [84, 77, 82, 1] (encT rs) rfl
  have e2 : openE [84, 77, 82, 1] (encF rs) = 0 := openE_ok [84, 77, 82, 1] (encT rs) rfl
  unfold decE
  rw [e1, e2, decRF_encT h]
  simp [decOk, decRF_encT h]
end Go.Proofs.Ytndlmgocldckfaa

namespace Go.Proofs.Ytndlmgocldckfaa
open Go.RowKit
set_option linter.unusedVariables false
set_option linter.unusedSimpArgs false

abbrev Quad := Int × Int × Int × Int
def Quad.at_ (r : Quad) (j : Nat) : Int := if j % 4 = 0 then r.1 else if j % 4 = 1 then r.2.1 else if j % 4 = 2 then r.2.2.1 else r.2.2.2
/-- Four numbers each, as they lie. -/
def RawM (w : World) (a : Option Addr) (M : List Quad) : Prop :=
  M.length ≤ 1000000000000000 ∧ (∀ r ∈ M, I64 r.1 ∧ I64 r.2.1 ∧ I64 r.2.2.1 ∧ I64 r.2.2.2) ∧ ∀ (i : Nat) (h : i < M.length), ∃ b off, a = some ⟨b, off, none⟩ ∧ w.cell? ⟨b, off + i * 4, none⟩ = some (.int .i64 M[i].1) ∧ w.cell? ⟨b, off + i * 4 + 1, none⟩ = some (.int .i64 M[i].2.1) ∧ w.cell? ⟨b, off + i * 4 + 2, none⟩ = some (.int .i64 M[i].2.2.1) ∧ w.cell? ⟨b, off + i * 4 + 3, none⟩ = some (.int .i64 M[i].2.2.2)
theorem RawM.below {w w' : World} {a : Option Addr} {M : List Quad} (h : RawM w a M) (hb : Below w.heap.size w w') : RawM w' a M := by
  refine ⟨h.1, h.2.1, fun i hi => ?_⟩
  obtain ⟨b, off, e, h0, h1, h2, h3⟩ := h.2.2 i hi
  exact ⟨b, off, e, below_at hb h0 (lt_of_cell h0), below_at hb h1 (lt_of_cell h1), below_at hb h2 (lt_of_cell h2), below_at hb h3 (lt_of_cell h3)⟩

theorem recT_last (rs : List Rec) (t : Int) (h : 0 < rs.length) : recT t rs = rs[rs.length - 1].e.time := by
  rcases List.eq_nil_or_concat rs with rfl | ⟨l, x, rfl⟩
  · simp at h
  · simp only [List.concat_eq_append, recT_snoc]
    rw [List.getElem_append_right (by simp)]
    simp
theorem recT_le {rs : List Rec} {h : Int} (hh : 0 ≤ h) (hr : ∀ r ∈ rs, r.e.time ≤ h) : recT 0 rs ≤ h := by
  by_cases h0 : 0 < rs.length
  · rw [recT_last rs 0 h0]; exact hr _ (List.getElem_mem _)
  · rw [List.eq_nil_of_length_eq_zero (show rs.length = 0 by omega)]; exact hh

theorem cmpF_self : ∀ (l : List Rec) (i : Nat), cmpF i l l = -1
  | [], i => by simp [cmpF]
  | r :: l, i => by rw [cmpF, if_pos ((recEq_iff r r).2 rfl)]; exact cmpF_self l (i + 1)
theorem cmpF_short : ∀ (l : List Rec) (i : Nat), 0 < l.length → cmpF i l (l.take (l.length - 1)) = (i + (l.length - 1) : Nat)
  | [], i, h => by simp at h
  | [r], i, h => by simp [cmpF]
  | r :: q :: l, i, h => by
    have ih := cmpF_short (q :: l) (i + 1) (by simp)
    simp only [List.length_cons, Nat.add_sub_cancel] at ih ⊢
    rw [List.take_succ_cons, cmpF, if_pos ((recEq_iff r r).2 rfl), ih]
    omega
theorem RecIn.take {w : World} {a : Option Addr} {rs : List Rec} (h : RecIn w a rs) (n : Nat) : RecIn w a (rs.take n) := by
  intro i r hr
  rw [List.getElem?_take] at hr
  split at hr
  · exact h i r hr
  · simp at hr
theorem xor_ne64 (a : Int) (ha : 0 ≤ a ∧ a < 4611686018427387904) : bits .xor .i64 a 1 ≠ a := by
  obtain ⟨x, rfl⟩ := Int.eq_ofNat_of_zero_le ha.1
  have h1 : (BitVec.ofInt 64 (x : Int)).toNat = x := by
    rw [BitVec.ofInt_natCast, BitVec.toNat_ofNat]; exact Nat.mod_eq_of_lt (by omega)
  have h2 : (BitVec.ofInt 64 (1 : Int)).toNat = 1 := by decide
  have hlt : x ^^^ 1 < 2 ^ 62 := Nat.xor_lt_two_pow (by omega) (by omega)
  have e : bits .xor .i64 (x : Int) 1 = ((x ^^^ 1 : Nat) : Int) := by
    show IntKind.i64.wrap ((BitVec.ofInt 64 (x : Int) ^^^ BitVec.ofInt 64 (1 : Int)).toNat : Int) = _
    rw [BitVec.toNat_xor, h1, h2, IntKind.wrap_i64]
    omega
  rw [e]
  intro hc
  have hc' : x ^^^ 1 = x := by omega
  have h3 : x ^^^ (x ^^^ 1) = x ^^^ x := by rw [hc']
  rw [← Nat.xor_assoc, Nat.xor_self, Nat.zero_xor] at h3
  omega
theorem openE_cases (hd l : List Int) : openE hd l = 0 ∨ openE hd l = 4 ∨ openE hd l = 5 := by
  unfold openE
  split
  · simp
  · split <;> simp
theorem decE_cases (l : List Int) : decE l = 0 ∨ decE l = 4 ∨ decE l = 5 := by
  unfold decE
  have := openE_cases [84, 77, 82, 1] l
  split
  · exact this
  · split
    · exact .inl rfl
    · exact .inr (.inl rfl)

/-- The first record's number is another one. -/
theorem AllR.renum {w : World} {Z : Nat} {av : Value} {L : List RecC} {r : Rec} {rs : List Rec} (h : AllR w Z av L (r :: rs)) (n : Int) : ∃ g cap, av = .slice (some ⟨g, 0, none⟩) (rs.length + 1) cap ∧ Z ≤ g ∧ g < w.heap.size ∧ w.cell? ⟨g, 0, none⟩ = some (.int .i64 r.e.number) ∧ w.frozen? ⟨g, 0, none⟩ = false ∧ RecIn (w.setCell ⟨g, 0, none⟩ (.int .i64 n)) (some ⟨g, 0, none⟩) (⟨⟨r.e.time, n, r.e.kind, r.e.entity⟩, r.told⟩ :: rs) := by
  have hl := h.len
  simp only [List.length_cons] at hl
  have hts := h.tsep
  obtain ⟨a, cap, he, hin⟩ := h.recIn
  have hrow := h.row
  obtain ⟨hx, ⟨e1, _⟩ | ⟨g, cap', cur, rfl, hbg, hg, hnc, hcm, hcs, htake⟩⟩ := hrow
  · rw [e1] at he
    simp only [List.length_cons, Value.slice.injEq] at he
    omega
  · simp only [List.length_cons, Value.slice.injEq] at he
    obtain ⟨rfl, hle, rfl⟩ := he
    have hgl := (Array.getElem?_eq_some_iff.1 hg).1
    obtain ⟨b0, off0, sa0, sc0, e0, k0, _⟩ := hin 0 r rfl
    simp only [Option.some.injEq, Addr.mk.injEq] at e0
    obtain ⟨rfl, rfl, _⟩ := e0
    simp only [Nat.zero_mul, Nat.add_zero] at k0
    refine ⟨g, cap', by rw [hle], hbg, hgl, k0, ?_, ?_⟩
    · simp [World.frozen?, hg]
    · have htold : ∀ (i : Nat) x q, L[i]? = some x → (r :: rs)[i]? = some q → ToldIn (w.setCell ⟨g, 0, none⟩ (.int .i64 n)) x.sa q.told := by
        intro i x q hx hq k t ht
        obtain ⟨_, _, h3⟩ := h.rec_ i x q hx hq
        rcases owns_row h3 with ⟨_, z0, _⟩ | ⟨g', cap'', q1, _, _, q3⟩
        · have := (List.getElem?_eq_some_iff.1 ht).1; omega
        · simp only [Value.slice.injEq] at q1
          refine ⟨g', 0, q1.1, ?_⟩
          have hne : g' ≠ g := by
            intro hc
            have := hts x (List.mem_of_getElem? hx) g' (by rw [q1.1]; rfl)
            rw [hc] at this
            exact this rfl
          rw [World.cell?_setCell_other _ _ _ _ (by simp <;> omega)]
          exact q3 k (.int .i64 t) (by simp [ints, ht])
      intro i q hq
      have hi : i < L.length := by have := (List.getElem?_eq_some_iff.1 hq).1; simp at this; omega
      have hx : L[i]? = some L[i] := List.getElem?_eq_getElem hi
      cases i with
      | zero =>
        simp only [List.getElem?_cons_zero, Option.some.injEq] at hq
        subst hq
        obtain ⟨b, off, sa, sc, e1, c0, c1, c2, c3, c4, ct⟩ := hin 0 r rfl
        simp only [Option.some.injEq, Addr.mk.injEq] at e1
        obtain ⟨rfl, rfl, _⟩ := e1
        obtain ⟨e2, e3, e4⟩ := h.rec_ 0 L[0] r hx rfl
        have hsa : sa = L[0].sa := by
          have hc4 : w.cell? ⟨g, 0 + 0 * 5 + 4, none⟩ = some (.slice L[0].sa L[0].n L[0].sc) := by
            rcases owns_row h.row with ⟨z, _⟩ | ⟨g'', cap'', z, _, _, z3⟩
            · simp at z
            · simp only [Value.slice.injEq, Option.some.injEq, Addr.mk.injEq] at z
              obtain ⟨⟨rfl, _⟩, _⟩ := z
              exact z3 (0 * 5 + 4) _ (by rw [recCells_get L 0 4 (by omega), hx]; rfl)
          rw [c4] at hc4
          simp only [Option.some.injEq, Value.slice.injEq] at hc4
          exact hc4.1
        refine ⟨g, 0, sa, sc, rfl, ?_, ?_, ?_, ?_, ?_, ?_⟩
        · simp only [Nat.zero_mul, Nat.add_zero]
          exact World.cell?_setCell_same' _ _ _ (by rw [k0]; rfl)
        · rw [World.cell?_setCell_other _ _ _ _ (by simp)]; exact c1
        · rw [World.cell?_setCell_other _ _ _ _ (by simp)]; exact c2
        · rw [World.cell?_setCell_other _ _ _ _ (by simp)]; exact c3
        · rw [World.cell?_setCell_other _ _ _ _ (by simp)]; exact c4
        · rw [hsa]; exact htold 0 L[0] r hx rfl
      | succ i =>
        have hq' : (r :: rs)[i + 1]? = some q := by simpa using hq
        obtain ⟨b, off, sa, sc, e1, c0, c1, c2, c3, c4, ct⟩ := hin (i + 1) q hq'
        simp only [Option.some.injEq, Addr.mk.injEq] at e1
        obtain ⟨rfl, rfl, _⟩ := e1
        have hsa : sa = L[i + 1].sa := by
          have hc4 : w.cell? ⟨g, 0 + (i + 1) * 5 + 4, none⟩ = some (.slice L[i + 1].sa L[i + 1].n L[i + 1].sc) := by
            rcases owns_row h.row with ⟨z, _⟩ | ⟨g'', cap'', z, _, _, z3⟩
            · simp at z
            · simp only [Value.slice.injEq, Option.some.injEq, Addr.mk.injEq] at z
              obtain ⟨⟨rfl, _⟩, _⟩ := z
              have := z3 ((i + 1) * 5 + 4) _ (by rw [recCells_get L (i + 1) 4 (by omega), hx]; rfl)
              rw [Nat.add_assoc]; exact this
          rw [c4] at hc4
          simp only [Option.some.injEq, Value.slice.injEq] at hc4
          exact hc4.1
        refine ⟨g, 0, sa, sc, rfl, ?_, ?_, ?_, ?_, ?_, ?_⟩
        · rw [World.cell?_setCell_other _ _ _ _ (by simp <;> omega)]; exact c0
        · rw [World.cell?_setCell_other _ _ _ _ (by simp)]; exact c1
        · rw [World.cell?_setCell_other _ _ _ _ (by simp)]; exact c2
        · rw [World.cell?_setCell_other _ _ _ _ (by simp)]; exact c3
        · rw [World.cell?_setCell_other _ _ _ _ (by simp)]; exact c4
        · rw [hsa]; exact htold (i + 1) L[i + 1] q hx hq'

/-- A record that is being made, in a variable. -/
structure YV (w wr : World) (V : Nat) (e : Ev) (sv : Value) (ts : List Int) : Prop where
  only : Only (· = V) w wr
  var : RecVar wr V e sv
  room : Room wr V 5
  row : wr.ownsRow (V + 1) 3 1 sv ts.length (ints ts)
theorem YV.tell {w wr : World} {V : Nat} {e : Ev} {sv : Value} {ts : List Int} (h : YV w wr V e sv ts) (hVw : w.heap.size ≤ V + 1) {wA w2 : World} {sv2 : Value} {x : Int} (hbA : Below wr.heap.size wr wA) (hg : wA.grownBy w2 sv.ownBlock) (hown : w2.ownsRow (V + 1) 3 1 sv2 (ts.length + 1) (ints ts ++ [.int .i64 x])) : YV w (w2.setCell ⟨V, 4, none⟩ sv2) V e sv2 (ts ++ [x]) := by
  have hz := h.only.size
  have hO : Only (fun b => some b = sv.ownBlock) wr w2 := (Only.new hbA).trans (only_of_grown hg)
  have hlt : ∀ b, some b = sv.ownBlock → V + 1 ≤ b := fun b hb => (h.row.lt b hb.symm).1
  have hro : Room w2 V 5 := h.room.only hO (fun hc => by have := hlt _ hc; omega)
  have ho : Only (· = V) w2 (w2.setCell ⟨V, 4, none⟩ sv2) := (Only.refl (· = V) w2).setCell (p := ⟨V, 4, none⟩) (show V = V from rfl) _
  have hv : RecVar w2 V e sv := ⟨hO.at h.var.c0 (fun hc => by have := hlt _ hc; omega), hO.at h.var.c1 (fun hc => by have := hlt _ hc; omega), hO.at h.var.c2 (fun hc => by have := hlt _ hc; omega), hO.at h.var.c3 (fun hc => by have := hlt _ hc; omega), hO.at h.var.c4 (fun hc => by have := hlt _ hc; omega)⟩
  refine ⟨(h.only.chain hO (fun i hi hc => by have := hlt _ hc; omega)).chain ho (fun i hi hc => hc), ?_, hro.setCell _ _, owns_keep (by simpa [ints] using hown) ho ?_⟩
  · exact ⟨(World.cell?_setCell_other _ _ _ _ (by simp)).trans hv.c0, (World.cell?_setCell_other _ _ _ _ (by simp)).trans hv.c1, (World.cell?_setCell_other _ _ _ _ (by simp)).trans hv.c2, (World.cell?_setCell_other _ _ _ _ (by simp)).trans hv.c3, World.cell?_setCell_same' _ _ _ (hro 4 (by omega)).1⟩
  · intro b hb hc
    have := (hown.lt b hb.symm).1
    omega
theorem YV.bel {w wr w2 : World} {V : Nat} {e : Ev} {sv : Value} {ts : List Int} (h : YV w wr V e sv ts) (hb : Below wr.heap.size wr w2) : YV w w2 V e sv ts :=
  ⟨h.only.trans (Only.new hb), h.var.below hb, h.room.below hb (lt_of_cell h.var.c0), owns_keep h.row (Only.new (S := fun _ => False) hb) (by simp)⟩

set_option maxRecDepth 100000 in
set_option maxHeartbeats 4000000 in
theorem written_any (sa da pa ma ba : Option Addr) (sc dc pc mc bc : Nat) (L D : List Int) (P : List PlanR) (M : List Quad) (B : List Int) (w : World) (hL : RawL w sa L) (hD : RawL w da D) (hP : RawPl w pa P) (hM : RawM w ma M) (hB : BytesV w ba bc B) :
    Calls Try.prog 6 #[.agg #[.slice sa L.length sc, .slice da D.length dc, .slice pa P.length pc], .slice ma M.length mc, .slice ba B.length bc] w fun e w' => e = .returned (.bool true) ∧ Below w.heap.size w w' := by
  have HL := hide hL
  have HD := hide hD
  have HP := hide hP
  have HM := hide hM
  have HBy := hide hB
  clear hL hD hP hM hB
  go_enter Try.func6, Try.ntmps6
  go_wp2_with fail
  obtain ⟨W0, hW0⟩ : ∃ W0, W0 = w.alloc (.cells #[.slice sa L.length sc, .slice da D.length dc, .slice pa P.length pc] 25) := ⟨_, rfl⟩
  have hb0 : Below w.heap.size w W0 := by rw [hW0]; exact (Below.refl _ _).alloc (Nat.le_refl _) _
  have hz0 : W0.heap.size = w.heap.size + 1 := by rw [hW0]; simp
  rw [← hW0]
  clear hW0
  refine (begun_any sa da pa sc dc pc L D P W0 (HL.out.below hb0) (HD.out.below hb0) (HP.out.below hb0)).mono ?_
  rintro e w2 ⟨bkb, bqb, bmb, bov, bR, bbase, rfl, hB⟩
  have hz2 := hB.below.size
  have hb1 := hB.base
  have HB2 := hide (hb0.trans (hB.below.mono (by omega)))
  have HB := hide hB
  clear hB hb0
  have hE := entsF_le L
  have hNK := nkF_le L
  have hNL := kindsF_len L
  have hdl := rdrawsF_len D
  have hK8 : (kindsF L).length ≤ 8 := by omega
  have hf0 := begunF_facts L D P
  have hRA := runF_all (kindsF_ok L) (rdrawsF_ok D) 1000000 100 (begunF L P) hf0.1
  have hRO := runF_recOk (kindsF_ok L) (rdrawsF_ok D) (by omega) hK8 1000000 100 (begunF L P) hf0.1
  rcases hrun : runF (kindsF L) (rdrawsF D) 1000000 100 (begunF L P) with ⟨s2, rs, why⟩
  rw [hrun] at hRA hRO
  simp only at hRA hRO
  have hrl := hRA.len
  have hro : recsOkF 0 rs = true := recsOkF_mono hRO hf0.1.ok.clock.1
  have Heach := hide hRA.each
  have HR := hide (run_ok 100 1000000 w2 HB.out.ker hf0.1.ok (by omega) hK8 (by omega) hb1.2 (kindsF_ok L) (rdrawsF_ok D) s2 rs why hrun)
  have Hks0 : Hid (∀ b, KSet bkb bqb bmb bov b → W0.heap.size ≤ b) := fun b hb => by have := HB.out.kset b hb; omega
  have Hro := hide hro
  clear hrun hRA hRO hro hf0 hb1
  go_wp2_with fail
  refine HR.out.mono ?_
  rintro e w3 ⟨lv, ov3, RL, rfl, ho3, hm3, hk3, hok3, hout⟩
  have hz3 := ho3.size
  have hb3 : Below W0.heap.size w2 w3 := ho3.below hz2 (fun k hk hc => by have := Hks0.out _ hc; omega)
  have HB3 : Hid (Below w.heap.size w w3) := HB2.out.trans (hb3.mono (by omega))
  have HA3 : Hid (AllR w3 w2.heap.size lv RL rs) := ⟨hout.len, hout.row, hout.rec_, fun x hx b hb => by
    obtain ⟨j, hj⟩ := List.getElem?_of_mem hx
    exact (hout.tsep j x b hj hb).2⟩
  obtain ⟨la, lcap, hlv, hrin⟩ := HA3.out.recIn
  subst hlv
  have Hrin := hide hrin
  clear ho3 hm3 hk3 hok3 hout hb3 HR hrin
  have ht1 : recT 0 rs ≤ 1000000 := recT_le (by omega) (fun r hr => (Heach.out r hr).2.1)
  have ht0 : 0 ≤ recT 0 rs := recT_ge rs 0 Hro.out
  have HT0 := hide ht0
  have HT1 := hide ht1
  clear ht0 ht1
  go_upto_if 39 with fail
  go_cut [11] from 40 to 46 (fun s11 wx => s11 = .int .i64 (recT 0 rs) ∧ Hid (Below w3.heap.size w3 wx))
  case first =>
    by_cases h0 : 0 < rs.length
    · have d0 : decide ((0 : Int) < (rs.length : Int)) = true := by rw [decide_eq_true_eq]; omega
      have hwl : IntKind.i64.wrap ((rs.length : Int) - 1) = ((rs.length - 1 : Nat) : Int) := by rw [IntKind.wrap_i64]; omega
      have hi0 : (0 : Int) ≤ ((rs.length - 1 : Nat) : Int) := by omega
      have hi1 : ((rs.length - 1 : Nat) : Int) < (rs.length : Int) := by omega
      obtain ⟨b, off, sa', sc', rfl, c0, c1, c2, c3, c4, ct⟩ := Hrin.out (rs.length - 1) rs[rs.length - 1] (List.getElem?_eq_getElem (by omega))
      have HTl := hide (recT_last rs 0 h0)
      generalize rs[rs.length - 1] = r at c0 c1 c2 c3 c4 HTl
      clear c0 c2 c3 c4 ct
      go_wp2_with fail
      go_meet
      case rel => exact ⟨by rw [HTl.out], Below.refl _ _⟩
    · have d0 : decide ((0 : Int) < (rs.length : Int)) = false := by rw [decide_eq_false_iff_not]; omega
      have e0 : rs = [] := List.eq_nil_of_length_eq_zero (by omega)
      go_wp2_with fail
      go_meet
      case rel => exact ⟨by rw [e0]; rfl, Below.refl _ _⟩
  case rest =>
    rename World => w4
    obtain ⟨rfl, hb34⟩ := hcut
    have HA4 : Hid (AllR w4 w2.heap.size (.slice la rs.length lcap) RL rs) := HA3.out.only (Only.new (S := fun _ => False) hb34.out) (by simp)
    have HB4 : Hid (Below w2.heap.size w3 w4) := hb34.out.mono hz3
    go_upto_block 0 with fail
    go_cut [8, 11, 12, 13, 14, 15] from 47 to 98 (fun s8 s11 s12 s13 s14 s15 wx => ∃ (a' : Option Addr) (c' : Nat) (rs' : List Rec), s8 = .slice a' rs'.length c' ∧ rs'.length ≤ 200 ∧ Hid (∃ L', Below w2.heap.size w3 wx ∧ AllR wx w2.heap.size (.slice a' rs'.length c') L' rs' ∧ recsOkF 0 rs' = true))
    case first =>
      go_wp2_with fail
      go_loopg [8, 11, 12] 103 (fun gf s8 s11 s12 wx => ∃ (i : Nat) (a' : Option Addr) (c' : Nat) (rs' : List Rec) (t : Int), s12 = .int .i64 i ∧ s8 = .slice a' rs'.length c' ∧ s11 = .int .i64 t ∧ 101 - i + 1 ≤ gf ∧ i ≤ 100 ∧ i ≤ M.length ∧ 0 ≤ t ∧ t ≤ 1000000 + 100000 * i ∧ rs'.length ≤ 100 + i ∧ Hid (t = recT 0 rs' ∧ ∃ L', Below w2.heap.size w3 wx ∧ AllR wx w2.heap.size (.slice a' rs'.length c') L' rs' ∧ recsOkF 0 rs' = true))
      case atStart => exact ⟨0, la, lcap, rs, recT 0 rs, rfl, rfl, rfl, by omega, by omega, by omega, HT0.out, by have := HT1.out; omega, by omega, rfl, RL, HB4.out, HA4.out, Hro.out⟩
      case round =>
        rename World => wo
        obtain ⟨i, a', c', rs', t, rfl, rfl, rfl, hgf, hi1, hi2, ht0, ht1, hrl', hI⟩ := hrel
        by_cases hlt : i < M.length
        · by_cases hlt2 : i < 100
          · have d1 : decide ((i : Int) < (M.length : Int)) = true := by rw [decide_eq_true_eq]; omega
            have d2 : decide ((i : Int) < 100) = true := by rw [decide_eq_true_eq]; omega
            have hii : (i : Int) < (M.length : Int) := by omega
            have hw1 : IntKind.i64.wrap ((i : Int) + 1) = (i : Int) + 1 := by rw [IntKind.wrap_i64]; omega
            obtain ⟨htt, L', hbo, hAo, hro⟩ := hI.out
            have hzo := hbo.size
            have hBwo : Below w.heap.size w wo := HB3.out.trans (hbo.mono (by omega))
            obtain ⟨qb, qo, rfl, p0, p1, p2, p3⟩ := (HM.out.below hBwo).2.2 i hlt
            have hqv := HM.out.2.1 M[i] (List.getElem_mem hlt)
            generalize M[i] = qq at p0 p1 p2 p3 hqv
            obtain ⟨q0, q1, q2, q3⟩ := qq
            simp only at p0 p1 p2 p3 hqv
            obtain ⟨hv0, hv1, hv2, hv3⟩ := hqv
            have g0 := pickF_lt q0 (n := 100000) (by omega)
            have g1 := pickF_lt q1 (n := 1000000001) (by omega)
            have g2 := pickF_lt q2 (n := 8) (by omega)
            have g3 := pickF_lt q3 (n := 8) (by omega)
            have g4 := pickF_lt q3 (n := 17) (by omega)
            have hwt : IntKind.i64.wrap (t + pickF q0 100000) = t + pickF q0 100000 := by rw [IntKind.wrap_i64]; omega
            have HAo := hide hAo
            have Hbo := hide hbo
            have Hro' := hide hro
            have Htt := hide htt
            have HPk : Hid (∀ c n W, I64 c → (1 ≤ n ∧ n ≤ 9223372036854775807) → Calls Try.prog 10 #[.int .i64 c, .int .i64 n] W fun e w' => e = .returned (.int .i64 (pickF c n)) ∧ w' = W) := fun c n W hc hn => pick_any c n W hc hn
            clear htt hbo hAo hro hBwo hI
            clear HL HD HP HB HB2 Heach Hks0 Hro HA3 Hrin HT0 HT1 hb34 HA4 HB4 HBy
            go_wp2_with fail
            obtain ⟨W1, hW1⟩ : ∃ W1, W1 = wo.alloc (.cells #[.int .i64 q0, .int .i64 q1, .int .i64 q2, .int .i64 q3] 54) := ⟨_, rfl⟩
            have hb1 : Below wo.heap.size wo W1 := by rw [hW1]; exact (Below.refl _ _).alloc (Nat.le_refl _) _
            have hzW1 : W1.heap.size = wo.heap.size + 1 := by rw [hW1]; simp
            have x0 : W1.cell? ⟨wo.heap.size, 0, none⟩ = some (.int .i64 q0) := by rw [hW1]; simp [go_sem]
            have x1 : W1.cell? ⟨wo.heap.size, 1, none⟩ = some (.int .i64 q1) := by rw [hW1]; simp [go_sem]
            have x2 : W1.cell? ⟨wo.heap.size, 2, none⟩ = some (.int .i64 q2) := by rw [hW1]; simp [go_sem]
            have x3 : W1.cell? ⟨wo.heap.size, 3, none⟩ = some (.int .i64 q3) := by rw [hW1]; simp [go_sem]
            rw [← hW1]
            clear hW1 p0 p1 p2 p3
            refine (HPk.out q0 100000 W1 hv0 (by omega)).mono ?_
            rintro e wq ⟨rfl, rfl⟩
            go_wp2_with fail
            have y0 : ∀ o, (wq.alloc o).cell? ⟨wo.heap.size, 0, none⟩ = some (.int .i64 q0) := fun o => below_at ((Below.refl wq.heap.size wq).alloc (Nat.le_refl _) o) x0 (by omega)
            have y1 : ∀ o, (wq.alloc o).cell? ⟨wo.heap.size, 1, none⟩ = some (.int .i64 q1) := fun o => below_at ((Below.refl wq.heap.size wq).alloc (Nat.le_refl _) o) x1 (by omega)
            have y2 : ∀ o, (wq.alloc o).cell? ⟨wo.heap.size, 2, none⟩ = some (.int .i64 q2) := fun o => below_at ((Below.refl wq.heap.size wq).alloc (Nat.le_refl _) o) x2 (by omega)
            have y3 : ∀ o, (wq.alloc o).cell? ⟨wo.heap.size, 3, none⟩ = some (.int .i64 q3) := fun o => below_at ((Below.refl wq.heap.size wq).alloc (Nat.le_refl _) o) x3 (by omega)
            go_cut [14] from 66 to 76 (fun s14 wx => s14 = .pointer (some ⟨wo.heap.size + 1, 0, none⟩) ∧ Hid (wx = (wq.alloc (.cells #[.int .i64 (pickF q1 1000000001), .int .i64 (t + pickF q0 100000), .int .i64 (pickF q2 8), .int .i64 (pickF q3 8), .slice none 0 0] 36)).drew))
            case first =>
              clear HAo Hbo Hro' Htt HB3 HM g0 g1 g2 g3 g4 hwt hw1 hii d1 d2 hb1
              go_region_held3 (fun W' => W'.cell? ⟨wo.heap.size, 0, none⟩ = some (.int .i64 q0) ∧ W'.cell? ⟨wo.heap.size, 1, none⟩ = some (.int .i64 q1) ∧ W'.cell? ⟨wo.heap.size, 2, none⟩ = some (.int .i64 q2) ∧ W'.cell? ⟨wo.heap.size, 3, none⟩ = some (.int .i64 q3))
                (first | exact ⟨x0, x1, x2, x3⟩ | exact ⟨y0 _, y1 _, y2 _, y3 _⟩)
                (first | (go_at_call 10; refine (HPk.out _ _ _ (by first | exact hv1 | exact hv2 | exact hv3) (by decide)).mono ?_; rintro e' w6 ⟨rfl, rfl⟩))
              all_goals (go_wp2_with fail; go_meet; case rel => exact ⟨rfl, rfl⟩)
            case rest =>
              rename World => wv
              obtain ⟨rfl, hwv⟩ := hcut
              obtain ⟨N, hN⟩ := Int.eq_ofNat_of_zero_le g4.1
              have hN16 : N ≤ 16 := by omega
              have hbv : Below wq.heap.size wq wv := by rw [hwv.out]; exact ((Below.refl _ _).alloc (Nat.le_refl _) _).drew
              have hzv : wv.heap.size = wo.heap.size + 2 := by rw [hwv.out]; show (wq.alloc _).heap.size = _; simp; omega
              have HY0 : Hid (YV wv wv (wo.heap.size + 1) ⟨t + pickF q0 100000, pickF q1 1000000001, pickF q2 8, pickF q3 8⟩ (.slice none 0 0) []) := by
                refine ⟨Only.refl _ _, ?_, ?_, ⟨rfl, .inl ⟨rfl, rfl⟩⟩⟩
                · rw [hwv.out, ← hzW1]
                  exact (RecVar.new wq ⟨t + pickF q0 100000, pickF q1 1000000001, pickF q2 8, pickF q3 8⟩ _ _).below (Below.refl _ _).drew
                · rw [hwv.out, ← hzW1]
                  intro j hj
                  have : j = 0 ∨ j = 1 ∨ j = 2 ∨ j = 3 ∨ j = 4 := by omega
                  rcases this with rfl | rfl | rfl | rfl | rfl <;> simp [go_sem]
              have z0 := below_at hbv x0 (by omega)
              have z1 := below_at hbv x1 (by omega)
              have z2 := below_at hbv x2 (by omega)
              have z3 := below_at hbv x3 (by omega)
              have HZ := hide (And.intro z0 (And.intro z1 (And.intro z2 z3)))
              have Hbv := hide hbv
              have Hb1 := hide hb1
              have HPr : Hid (∀ c n W r, I64 c → (1 ≤ n ∧ n ≤ 9223372036854775807) → pickF c n = r → Calls Try.prog 10 #[.int .i64 c, .int .i64 n] W fun e w' => e = .returned (.int .i64 r) ∧ w' = W) := fun c n W r hc hn hr => by rw [← hr]; exact pick_any c n W hc hn
              have HN := hide hN
              clear hwv x0 x1 x2 x3 y0 y1 y2 y3 z0 z1 z2 z3 hbv hb1 hN
              go_wp2_with fail
              go_loopg [15] 20 (fun gf s15 wx => ∃ (j : Nat) (sv : Value) (ts : List Int), s15 = .int .i64 j ∧ N - j + 2 ≤ gf ∧ j ≤ N ∧ Hid (ts.length = j ∧ (∀ x ∈ ts, -1000000000 ≤ x ∧ x ≤ 1000000000) ∧ YV wv wx (wo.heap.size + 1) ⟨t + pickF q0 100000, pickF q1 1000000001, pickF q2 8, pickF q3 8⟩ sv ts))
              case atStart => exact ⟨0, _, [], rfl, by omega, by omega, rfl, by simp, HY0.out⟩
              case round =>
                obtain ⟨j, sv, ts, rfl, hgf2, hj, hJ⟩ := hrel
                have hzr := hJ.out.2.2.only.size
                have c3 := hJ.out.2.2.only.at HZ.out.2.2.2 (by omega)
                have HJl := hide hJ.out.1
                have HJb := hide hJ.out.2.1
                have HJ := hide hJ.out.2.2
                have hts16 : ts.length ≤ 16 := by have := hJ.out.1; omega
                clear hJ
                by_cases hjN : j < N
                · have e1 : decide ((j : Int) < (N : Int)) = true := by rw [decide_eq_true_eq]; omega
                  have hwj : IntKind.i64.wrap ((j : Int) + 1) = (j : Int) + 1 := by rw [IntKind.wrap_i64]; omega
                  obtain ⟨jm, hjm⟩ : ∃ jm, jm = j % 4 := ⟨_, rfl⟩
                  have hjm4 : jm < 4 := by omega
                  have hmod : (j : Int).tmod 4 = (jm : Int) := by rw [Int.tmod_eq_emod_of_nonneg (by omega)]; omega
                  have hmw : IntKind.i64.wrap (jm : Int) = (jm : Int) := by rw [IntKind.wrap_i64]; omega
                  have hj0 : (0 : Int) ≤ (jm : Int) := by omega
                  have hj4 : (jm : Int) < 4 := by omega
                  obtain ⟨qj, hqj, HCq⟩ : ∃ qj, I64 qj ∧ Hid (wv.cell? ⟨wo.heap.size, jm, none⟩ = some (.int .i64 qj)) := by
                    have : jm = 0 ∨ jm = 1 ∨ jm = 2 ∨ jm = 3 := by omega
                    rcases this with e | e | e | e <;> rw [e]
                    · exact ⟨q0, hv0, HZ.out.1⟩
                    · exact ⟨q1, hv1, HZ.out.2.1⟩
                    · exact ⟨q2, hv2, HZ.out.2.2.1⟩
                    · exact ⟨q3, hv3, HZ.out.2.2.2⟩
                  have gq := pickF_lt qj (n := 2000000001) (by omega)
                  obtain ⟨pj, hpj⟩ : ∃ pj, pickF qj 2000000001 = pj := ⟨_, rfl⟩
                  rw [hpj] at gq
                  have hws : IntKind.i64.wrap (pj - 1000000000) = pj - 1000000000 := by rw [IntKind.wrap_i64]; omega
                  have Hpj := hide hpj
                  clear hpj hjm
                  go_wp2_with fail
                  refine (HPr.out q3 17 _ _ hv3 (by omega) HN.out).mono ?_
                  rintro e w6 ⟨rfl, rfl⟩
                  go_wp2_with fail
                  have c4 : w6.cell? ⟨wo.heap.size + 1, 4, none⟩ = some sv := HJ.out.var.c4
                  have c4d : w6.drew.cell? ⟨wo.heap.size + 1, 4, none⟩ = some sv := c4
                  have cq : w6.cell? ⟨wo.heap.size, jm, none⟩ = some (.int .i64 qj) := HJ.out.only.at HCq.out (by omega)
                  have cqd : w6.drew.cell? ⟨wo.heap.size, jm, none⟩ = some (.int .i64 qj) := cq
                  have b4 : ∀ o, (w6.alloc o).cell? ⟨wo.heap.size + 1, 4, none⟩ = some sv := fun o => below_at ((Below.refl w6.heap.size w6).alloc (Nat.le_refl _) o) c4 (lt_of_cell c4)
                  have b4d : ∀ o, (w6.alloc o).drew.cell? ⟨wo.heap.size + 1, 4, none⟩ = some sv := b4
                  have HbA : Hid (∀ o, Below w6.heap.size w6 (w6.alloc o).drew) := fun o => ((Below.refl _ _).alloc (Nat.le_refl _) o).drew
                  have Hrw : Hid (∀ o, (w6.alloc o).drew.ownsRow (wo.heap.size + 1 + 1) 3 1 sv ts.length (ints ts)) := fun o => owns_keep HJ.out.row (Only.new (S := fun _ => False) (HbA.out o)) (by simp)
                  have Hr1 : Hid (∀ v T, RowAt (w6.alloc (.cells #[v] T)).drew w6.heap.size 0 [v]) := fun v T => row_one w6 v T
                  have Hsz : Hid (∀ o, wo.heap.size + 1 + 1 ≤ (w6.alloc o).drew.heap.size) := fun o => by (show _ ≤ (w6.alloc o).heap.size; simp; omega)
                  have Hrm : Hid (∀ o, Room (w6.alloc o).drew (wo.heap.size + 1) 5) := fun o => HJ.out.room.below (HbA.out o) (lt_of_cell c4)
                  have Hlv : Hid (∀ b, some b = sv.ownBlock → wo.heap.size + 1 + 1 ≤ b) := fun b hb' => (HJ.out.row.lt b hb'.symm).1
                  clear c3
                  go_region_law (first | (go_simp; go_at_call 10; refine (HPr.out _ _ _ _ hqj (by decide) Hpj.out).mono ?_; rintro e' w7 ⟨rfl, rfl⟩) | (refine step_append_src rfl (.tmp 85) (.tmp 92) 22 rfl (wo.heap.size + 1 + 1) 3 (.int .i64 0) 1 8 Try.underlying22 Try.info3 rfl (by omega) sv ts.length (ints ts) rfl (Hrw.out _) _ 1 [.int .i64 (pj - 1000000000)] rfl (.inr (.inl ⟨_, 0, _, rfl, Hr1.out _ _⟩)) rfl (by simp [Value.oneCell']) (by omega) (by omega) (Hsz.out _) ?_; intro v7 w7 hown7 hgr7 hwh7; (have c7 : w7.cell? ⟨wo.heap.size + 1, 4, none⟩ = some sv := (only_of_grown hgr7.out).at (b4d _) (fun hc => by have := Hlv.out _ hc; omega)); (have z7 : w7.frozen? ⟨wo.heap.size + 1, 4, none⟩ = false := ((Hrm.out _).only (only_of_grown hgr7.out) (fun hc => by have := Hlv.out _ hc; omega) 4 (by omega)).2); obtain ⟨sa7, sc7, rfl⟩ := owns_form1 hown7.out))
                  all_goals
                    have HT7 := hide (HJ.out.tell (by omega) (HbA.out _) hgr7.out hown7.out)
                    clear c4 c4d cq cqd b4 b4d c7 z7 hgr7 hown7 hwh7
                    go_wp2_with fail
                    go_roundg (N - (j + 1) + 2)
                    case measure => omega
                    case rel => exact ⟨j + 1, _, ts ++ [pj - 1000000000], by go_num, Nat.le_refl _, by omega, by simp [HJl.out], by
                      intro x hx
                      rcases List.mem_append.1 hx with hx | hx
                      · exact HJb.out x hx
                      · simp at hx; omega, HT7.out⟩
                · have e1 : decide ((j : Int) < (N : Int)) = false := by rw [decide_eq_false_iff_not]; omega
                  go_wp2_with fail
                  refine (HPr.out q3 17 _ _ hv3 (by omega) HN.out).mono ?_
                  rintro e w6 ⟨rfl, rfl⟩
                  have v0 := HJ.out.var.c0
                  have v1 := HJ.out.var.c1
                  have v2 := HJ.out.var.c2
                  have v3 := HJ.out.var.c3
                  have v4 := HJ.out.var.c4
                  simp only at v0 v1 v2 v3
                  obtain ⟨ta, tc, rfl⟩ := owns_form1 HJ.out.row
                  clear c3
                  have hoy := HJ.out.only
                  have hA6 : AllR w6 w2.heap.size (.slice a' rs'.length c') L' rs' := ((HAo.out.only (Only.new (S := fun _ => False) Hb1.out) (by simp)).only (Only.new (S := fun _ => False) Hbv.out) (by simp)).only hoy (fun b hb' hc' => by have := (HAo.out.lt b hb').2; omega)
                  have HA6 := hide hA6
                  have Hlt6 : Hid (∀ b, some b = (Value.slice a' rs'.length c').ownBlock → b < wo.heap.size) := fun b hb' => (HAo.out.lt b (.inl hb')).2
                  have hlL := hA6.len
                  obtain ⟨W7, hW7⟩ : ∃ W7, W7 = w6.alloc (.cells #[.int .i64 (pickF q1 1000000001), .int .i64 (t + pickF q0 100000), .int .i64 (pickF q2 8), .int .i64 (pickF q3 8), .slice ta ts.length tc] 36) := ⟨_, rfl⟩
                  have hb7 : Below w6.heap.size w6 W7 := by rw [hW7]; exact (Below.refl _ _).alloc (Nat.le_refl _) _
                  have hz7 : W7.heap.size = w6.heap.size + 1 := by rw [hW7]; simp
                  have HsR : Hid (RowAt W7 w6.heap.size 0 (RecC.cells ⟨⟨t + pickF q0 100000, pickF q1 1000000001, pickF q2 8, pickF q3 8⟩, ta, ts.length, tc⟩)) := by
                    intro m u hu
                    have hm : m < 5 := by have := (List.getElem?_eq_some_iff.1 hu).1; simpa [RecC.cells] using this
                    have : m = 0 ∨ m = 1 ∨ m = 2 ∨ m = 3 ∨ m = 4 := by omega
                    rcases this with rfl | rfl | rfl | rfl | rfl <;> simp [RecC.cells] at hu <;> subst hu <;> rw [hW7] <;> simp [go_sem]
                  have HA7 := hide (hA6.only (Only.new (S := fun _ => False) hb7) (by simp))
                  have Hrow7 := hide (owns_keep HJ.out.row (Only.new (S := fun _ => False) hb7) (by simp))
                  have Hoy := hide hoy
                  have HB7 := hide hb7
                  have hL200 : L'.length + 1 ≤ 1000 := by omega
                  have HlL := hide hlL
                  clear hA6 hoy hb7 hlL
                  go_wp2_with (at_builtin; rw [← hW7]; refine wpList_append_src rfl (.tmp 95) (.tmp 97) 29 rfl w2.heap.size 36 (.agg #[.int .i64 0, .int .i64 0, .int .i64 0, .int .i64 0, .slice none 0 0]) 5 56 Try.underlying29 Try.infoR rfl (by omega) _ L'.length (recCells L') rfl HA7.out.row _ 1 (RecC.cells ⟨⟨t + pickF q0 100000, pickF q1 1000000001, pickF q2 8, pickF q3 8⟩, ta, ts.length, tc⟩) rfl (.inr (.inl ⟨w6.heap.size, 0, _, rfl, HsR.out⟩)) rfl ?_ (by omega) (by omega) (by omega) ?_)
                  · intro u hu
                    simp [RecC.cells] at hu
                    rcases hu with rfl | rfl | rfl | rfl | rfl <;> rfl
                  intro v8 w8 hown8 hgr8 hwh8
                  rw [← hW7] at hgr8
                  have hwh9 : v8.ownBlock = (Value.slice a' rs'.length c').ownBlock ∨ v8.ownBlock = some W7.heap.size := by rw [hz7]; exact hwh8.out
                  have hA8 : AllR w8 w2.heap.size v8 (L' ++ [⟨⟨t + pickF q0 100000, pickF q1 1000000001, pickF q2 8, pickF q3 8⟩, ta, ts.length, tc⟩]) (rs' ++ [⟨⟨t + pickF q0 100000, pickF q1 1000000001, pickF q2 8, pickF q3 8⟩, ts⟩]) :=
                    HA7.out.snoc (x := ⟨⟨t + pickF q0 100000, pickF q1 1000000001, pickF q2 8, pickF q3 8⟩, ta, ts.length, tc⟩) (r := ⟨⟨t + pickF q0 100000, pickF q1 1000000001, pickF q2 8, pickF q3 8⟩, ts⟩) rfl rfl (owns_mono Hrow7.out (by omega)) hgr8.out hown8.out hwh9 (fun b hb' hc' => by have := (Hrow7.out.lt b hb'.symm).1; have := Hlt6.out b hc'; omega)
                  have hb8 : Below w2.heap.size w3 w8 := by
                    have h1 : Below w2.heap.size wo w8 := ((Hb1.out.mono (by omega)).trans (Hbv.out.mono (by omega))).trans ((Hoy.out.below (by omega) (fun k hk hc' => by omega)).trans ((HB7.out.mono (by omega)).trans ((only_of_grown hgr8.out).below (by omega) (fun k hk hc' => by have := (HA7.out.lt k (.inl hc')).1; omega))))
                    exact Hbo.out.trans h1
                  obtain ⟨sa8, sc8, rfl⟩ := owns_form1 hown8.out
                  rw [HlL.out] at hA8
                  have HA8 := hide hA8
                  have HB8 := hide hb8
                  have HR8 : Hid (recsOkF 0 (rs' ++ [⟨⟨t + pickF q0 100000, pickF q1 1000000001, pickF q2 8, pickF q3 8⟩, ts⟩]) = true) := by
                    show _ = _
                    rw [recsOkF_snoc, Hro'.out, Bool.true_and, ← Htt.out]
                    simp only [recOkF, inB, valsF, Bool.and_eq_true, decide_eq_true_eq, List.all_eq_true]
                    exact ⟨by omega, by omega, by omega, by omega, by omega, HJb.out⟩
                  rw [HlL.out]
                  clear hA8 hb8 hwh9 hgr8 hown8 hwh8 hW7
                  go_wp2_with fail
                  go_roundg (101 - (i + 1) + 1)
                  case measure => omega
                  case rel => exact ⟨i + 1, sa8, sc8, _, _, by go_num, by simp, rfl, Nat.le_refl _, by omega, by omega, by omega, by omega, by simp; omega, by rw [recT_snoc], _, HB8.out, by simpa using HA8.out, HR8.out⟩
          · have d1 : decide ((i : Int) < (M.length : Int)) = true := by rw [decide_eq_true_eq]; omega
            have d2 : decide ((i : Int) < 100) = false := by rw [decide_eq_false_iff_not]; omega
            go_wp2_with fail
            go_meet
            case rel => exact ⟨a', c', rs', rfl, by omega, hI.out.2⟩
        · have d1 : decide ((i : Int) < (M.length : Int)) = false := by rw [decide_eq_false_iff_not]; omega
          go_wp2_with fail
          go_meet
          case rel => exact ⟨a', c', rs', rfl, by omega, hI.out.2⟩
    case rest =>
      rename World => w5
      obtain ⟨a5, c5, rs5, rfl, hl5, h5⟩ := hcut
      obtain ⟨L5, hb5, hA5, hr5⟩ := h5.out
      have hz5 := hb5.size
      have HB5 : Hid (Below w.heap.size w w5) := HB3.out.trans (hb5.mono (by omega))
      have hare : areF rs5 = true := by simp only [areF, Bool.and_eq_true, decide_eq_true_eq]; exact ⟨by omega, hr5⟩
      have HA5 := hide hA5
      have Hare := hide hare
      have Hr5 := hide hr5
      have Hrin5 : Hid (RecIn w5 a5 rs5) := by
        obtain ⟨a', c', e, h⟩ := hA5.recIn
        simp only [Value.slice.injEq] at e
        rw [e.1]; exact h
      have Htl5 : Hid (∀ r ∈ rs5, r.told.length ≤ 16) := fun r hr => (recsOkF_mem hr5 r hr).len
      clear HL HD HP HM HB HB2 Heach Hks0 Hro HB3 HA3 Hrin HT0 HT1 hb34 HA4 HB4 h5 hb5 hA5 hr5 hare
      go_wp2_with fail
      refine (encode_yes a5 c5 rs5 w5 Hrin5.out Hare.out).mono ?_
      rintro e w6 ⟨cv, rfl, hb6, hrow6⟩
      obtain ⟨cg, ccap, rfl⟩ := hrow6.form
      have hz6 := hb6.size
      have hcl := encF_len rs5
      have hcl2 := encT_len Hare.out
      have hby : ∀ b ∈ encF rs5, 0 ≤ b ∧ b < 256 := by
        intro b hb'
        rcases List.mem_append.1 hb' with hb' | hb'
        · rcases List.mem_append.1 hb' with hb' | hb'
          · simp at hb'; omega
          · exact encT_bytes Hare.out b hb'
        · exact sumB_bytes _ b hb'
      have HBc := hide (hrow6.bytesV hby (by omega))
      have HA6 := hide (HA5.out.only (Only.new (S := fun _ => False) hb6) (by simp))
      have HB6 : Hid (Below w.heap.size w w6) := HB5.out.trans (hb6.mono (by omega))
      obtain ⟨he1, he2⟩ := enc_dec Hare.out
      have HDc := hide (decode_any (some ⟨cg, 0, none⟩) ccap (encF rs5) w6 HBc.out)
      rw [he1, he2] at HDc
      clear hb6 hrow6 hby he1 he2 hcl hcl2
      generalize encF rs5 = cl at HBc HDc ⊢
      go_wp2_with fail
      refine HDc.out.mono ?_
      rintro e w7 ⟨mv, rfl, hb7, _, hA7⟩
      obtain ⟨ML, hM7, _⟩ := hA7 trivial
      obtain ⟨ma', mcap, rfl, hmr⟩ := hM7.recIn
      have hz7 := hb7.size
      have HM7 := hide hM7
      have HA7 := hide (HA6.out.only (Only.new (S := fun _ => False) hb7) (by simp))
      have HB7 : Hid (Below w.heap.size w w7) := HB6.out.trans (hb7.mono (by omega))
      have Hrm7 := hide hmr
      have Hrl7 : Hid (RecIn w7 a5 rs5) := by
        obtain ⟨a', c', e, h⟩ := HA7.out.recIn
        simp only [Value.slice.injEq] at e
        rw [e.1]; exact h
      have HSm : Hid (Calls Try.prog 17 #[.slice a5 rs5.length c5, .slice ma' rs5.length mcap] w7 fun e w' => e = .returned (.bool true) ∧ Below w7.heap.size w7 w') := by
        obtain ⟨q1, q2, e1, b1, h1⟩ := HA7.out.at
        obtain ⟨q3, q4, e2, b2, h2⟩ := HM7.out.at
        simp only [Value.slice.injEq] at e1 e2
        obtain ⟨rfl, _, rfl⟩ := e1
        obtain ⟨rfl, _, rfl⟩ := e2
        exact same_any _ _ _ _ b1 b2 rs5 w7 (by omega) Htl5.out h1 h2
      clear hb7 hA7 hM7 hmr HDc
      go_wp2_with fail
      refine HSm.out.mono ?_
      rintro e w8 ⟨rfl, hb8⟩
      have hz8 := hb8.size
      have HB8 : Hid (Below w.heap.size w w8) := HB7.out.trans (hb8.mono (by omega))
      have HA8 := hide (HA7.out.only (Only.new (S := fun _ => False) hb8) (by simp))
      have Hrm8 := hide (Hrm7.out.below hb8)
      have Hrl8 := hide (Hrl7.out.below hb8)
      have HM8 := hide (HM7.out.only (Only.new (S := fun _ => False) hb8) (by simp))
      clear hb8 HSm
      go_wp2_with fail
      refine (compare_any a5 ma' c5 mcap rs5 rs5 w8 Hrl8.out Hrm8.out (by omega) (by omega) (fun r hr => by have := Htl5.out r hr; omega)).mono ?_
      rintro e w9 ⟨rfl, hb9⟩
      rw [cmpF_self]
      have hz9 := hb9.size
      have HB9 : Hid (Below w.heap.size w w9) := HB8.out.trans (hb9.mono (by omega))
      have HA9 := hide (HA8.out.only (Only.new (S := fun _ => False) hb9) (by simp))
      have Hrm9 := hide (Hrm8.out.below hb9)
      have Hrl9 := hide (Hrl8.out.below hb9)
      have HM9 := hide (HM8.out.only (Only.new (S := fun _ => False) hb9) (by simp))
      clear hb9
      go_upto_if 131 with fail
      go_cut [21, 22] from 132 to 158 (fun s21 s22 wx => Hid (Below w.heap.size w wx))
      case first =>
        by_cases h0 : 0 < rs5.length
        · obtain ⟨r, rt, rfl⟩ : ∃ r rt, rs5 = r :: rt := by
            cases rs5 with
            | nil => simp at h0
            | cons r rt => exact ⟨r, rt, rfl⟩
          have d0 : decide ((0 : Int) < (((r :: rt).length : Nat) : Int)) = true := by rw [decide_eq_true_eq]; omega
          have hro := (recsOkF_mem Hr5.out r (List.mem_cons_self ..)).num
          have hne64 := xor_ne64 r.e.number (by omega)
          obtain ⟨n', hn'⟩ : ∃ n', n' = bits .xor .i64 r.e.number 1 := ⟨_, rfl⟩
          rw [← hn'] at hne64
          have hcs := cmpF_short (r :: rt) 0 h0
          have HCs : Hid (cmpF 0 (r :: rt) ((r :: rt).take rt.length) = ((rt.length : Nat) : Int)) := by
            have := hcs
            simp only [List.length_cons, Nat.add_sub_cancel, Nat.zero_add] at this
            exact this
          have HC0 : Hid (cmpF 0 (⟨⟨r.e.time, n', r.e.kind, r.e.entity⟩, r.told⟩ :: rt) (r :: rt) = 0) := by
            show _ = _
            rw [cmpF, if_neg]
            · rfl
            · rw [recEq_iff]
              intro hc
              have := congrArg (fun z : Rec => z.e.number) hc
              exact hne64 this
          have Htk : Hid (∀ q ∈ (r :: rt), q.told.length ≤ 1000000000000000) := fun q hq => by have := Htl5.out q hq; omega
          have Hn' := hide hn'
          have hlen : (r :: rt).length = rt.length + 1 := rfl
          have hmc : (r :: rt).length ≤ mcap := by
            have := HM7.out.row
            obtain ⟨_, ⟨e1, e2⟩ | ⟨g, cap', cur, e1, _, _, e3, _⟩⟩ := this
            · rw [HM7.out.len] at e2; omega
            · simp only [Value.slice.injEq] at e1; have := HM7.out.len; omega
          have hwl : IntKind.i64.wrap (((r :: rt).length : Int) - 1) = (rt.length : Int) := by rw [hlen, IntKind.wrap_i64]; omega
          have hi0 : (0 : Int) ≤ (rt.length : Int) := by omega
          have hi1 : (rt.length : Int) ≤ (mcap : Int) := by omega
          have hi2 : rt.length ≤ mcap := by omega
          have hi3 : (0 : Int) < ((r :: rt).length : Int) := by omega
          have hd4 : ((rt.length : Int) != (rt.length : Int)) = false := by simp
          have HQ1 : Hid (Calls Try.prog 20 #[.slice a5 (r :: rt).length c5, .slice ma' rt.length mcap] w9 fun e w' => e = .returned (.int .i64 (rt.length : Int)) ∧ Below w9.heap.size w9 w') := by
            have := compare_any a5 ma' c5 mcap (r :: rt) ((r :: rt).take rt.length) w9 Hrl9.out (Hrm9.out.take _) (by omega) (by simp; omega) Htk.out
            rw [HCs.out, show ((r :: rt).take rt.length).length = rt.length by simp] at this
            exact this
          clear hcs hn' hne64
          go_wp2_with fail
          refine HQ1.out.mono ?_
          rintro e w10 ⟨rfl, hb10⟩
          have hz10 := hb10.size
          have HB10 : Hid (Below w.heap.size w w10) := HB9.out.trans (hb10.mono (by omega))
          have HA10 := HA9.out.only (Only.new (S := fun _ => False) hb10) (by simp)
          obtain ⟨lg, lcap', hle, hlg1, hlg2, k0, kf, hRn⟩ := HA10.renum n'
          simp only [Value.slice.injEq] at hle
          obtain ⟨rfl, _, rfl⟩ := hle
          have hO : Only (· = lg) w10 (w10.setCell ⟨lg, 0, none⟩ (.int .i64 n')) := (Only.refl (· = lg) w10).setCell (p := ⟨lg, 0, none⟩) (show lg = lg from rfl) _
          have HQ2 : Hid (Calls Try.prog 20 #[.slice (some ⟨lg, 0, none⟩) (r :: rt).length c5, .slice ma' (r :: rt).length mcap] (w10.setCell ⟨lg, 0, none⟩ (.int .i64 n')) fun e w' => e = .returned (.int .i64 0) ∧ Below (w10.setCell ⟨lg, 0, none⟩ (.int .i64 n')).heap.size (w10.setCell ⟨lg, 0, none⟩ (.int .i64 n')) w') := by
            have hlg5 := (HA5.out.lt lg (.inl rfl)).2
            have hM10 := (HM9.out.only (Only.new (S := fun _ => False) hb10) (by simp)).only hO (fun b hb' hc' => by have := (HM9.out.lt b hb').1; omega)
            obtain ⟨ma2, mc2, e2, hm2⟩ := hM10.recIn
            simp only [Value.slice.injEq] at e2
            obtain ⟨rfl, _, rfl⟩ := e2
            have := compare_any (some ⟨lg, 0, none⟩) ma' c5 mcap (⟨⟨r.e.time, n', r.e.kind, r.e.entity⟩, r.told⟩ :: rt) (r :: rt) _ hRn hm2 (by simp at hl5 ⊢; omega) (by omega) (by
              intro q hq
              rcases List.mem_cons.1 hq with rfl | hq
              · exact Htk.out r (List.mem_cons_self ..)
              · exact Htk.out q (List.mem_cons_of_mem _ hq))
            rw [HC0.out] at this
            exact this
          have HBS : Hid (Below w.heap.size w (w10.setCell ⟨lg, 0, none⟩ (.int .i64 n'))) := HB10.out.trans (hO.below (by omega) (fun k hk hc' => by omega))
          have hzS : (w10.setCell ⟨lg, 0, none⟩ (.int .i64 n')).heap.size = w10.heap.size := by simp [World.setCell]
          rw [Hn'.out] at HQ2 HBS hzS
          clear hb10 HA10 hRn hO HQ1
          go_wp2_with fail
          refine HQ2.out.mono ?_
          rintro e w11 ⟨rfl, hb11⟩
          have HB11 : Hid (Below w.heap.size w w11) := HBS.out.trans (hb11.mono (by rw [hzS]; omega))
          clear hb11 HQ2
          go_wp2_with fail
          go_meet
          case rel => exact HB11.out
        · have d0 : decide ((0 : Int) < (rs5.length : Int)) = false := by rw [decide_eq_false_iff_not]; omega
          go_wp2_with fail
          go_meet
          case rel => exact HB9.out
      case rest =>
        rename World => w10
        have HB10 := hcut
        have hz10 := HB10.out.size
        have HBy10 := hide (HBy.out.below HB10.out)
        clear HM9 HM8 HA9 Hrm9 Hrl9 HB9 HA8 Hrm8 Hrl8 HB8 HA7 HM7 HB7 Hrm7 Hrl7 HA6 HB6 HBc HB5 HA5 Hare Hr5 Hrin5 Htl5
        go_wp2_with fail
        refine (decode_any ba bc B w10 HBy10.out).mono ?_
        rintro e w11 ⟨ov, rfl, hb11, hp1, hp2⟩
        have hz11 := hb11.size
        have HB11 : Hid (Below w.heap.size w w11) := HB10.out.trans (hb11.mono hz10)
        by_cases h0 : decE B = 0
        · obtain ⟨OL, hO, _⟩ := hp2 h0
          obtain ⟨oa, ocap, rfl, hor⟩ := hO.recIn
          obtain ⟨q1, q2⟩ := dec_enc HBy.out.bytes h0
          have Hor := hide hor
          have Hq1 := hide q1
          have Hq2 := hide q2
          have HBy11 := hide (HBy10.out.below hb11)
          rw [h0]
          have h8 : 8 ≤ B.length := by rw [← q2, encF_len]; omega
          clear hp1 hp2 hO hor q1 q2 hb11
          go_wp2_with fail
          refine (encode_yes oa ocap (decRF (openL B)).1 w11 Hor.out Hq1.out).mono ?_
          rintro e w12 ⟨av, rfl, hb12, hrow12⟩
          rw [Hq2.out] at hrow12
          obtain ⟨ag, acap, rfl⟩ := hrow12.form
          have hz12 := hb12.size
          have HB12 : Hid (Below w.heap.size w w12) := HB11.out.trans (hb12.mono (by omega))
          obtain ⟨g2, o2, rfl, hr2, hg2⟩ := (HBy11.out.below hb12).row h8
          have cv1 := conv_win (cap := bc) hr2 HBy.out.bytes
          have cv2 : (convert 46 9 (.slice (some ⟨ag, 0, none⟩) B.length acap)).run Try.prog w12 = .ok (.string (strW B)) w12 := by
            obtain ⟨g3, cap3, e3, _, _, hr3⟩ := hrow12.row
            simp only [Value.slice.injEq, Option.some.injEq, Addr.mk.injEq] at e3
            obtain ⟨⟨rfl, _⟩, _, rfl⟩ := e3
            exact conv_win hr3 HBy.out.bytes
          clear hb12 hrow12 hr2
          go_wp2_with fail
          go_ret
          exact ⟨rfl, HB12.out⟩
        · obtain rfl := hp1 h0
          have d1 : (decE B != 0) = true := by simpa using h0
          have hc := decE_cases B
          have hnil := run_eql_nil_slice (P := Try.prog) w11 29 36 none 0 0 0 0 Try.underlying29
          clear hp1 hp2 hb11
          rcases hc with hc | hc | hc
          · exact absurd hc h0
          · rw [hc]
            clear h0 d1 hc
            go_wp2_with fail
            go_ret
            exact ⟨rfl, HB11.out⟩
          · rw [hc]
            clear h0 d1 hc
            go_wp2_with fail
            go_ret
            exact ⟨rfl, HB11.out⟩
end Go.Proofs.Ytndlmgocldckfaa

namespace Go.Proofs.Ytndlmgocldckfaa
open Go.ChangeShapes Go.WideShapes Go.ChangeAt Go.RowKit Go.Deep Go.Joins
set_option linter.unusedVariables false
set_option linter.unusedSimpArgs false

theorem Try.cellsA4 : Try.prog.cellsOf 54 = 4 := by kernel_rfl
theorem Try.bytesA4 : Try.prog.bytesOf 54 = 32 := by kernel_rfl
theorem Try.cellsU8 : Try.prog.cellsOf 5 = 1 := by kernel_rfl
theorem Try.bytesU8 : Try.prog.bytesOf 5 = 1 := by kernel_rfl

section
variable {H : Type} {enc : TypeId × Value → H} {w : World} {spare : Nat → Bool} {held : Bool}

set_option maxRecDepth 100000 in
theorem quad_open {n : Nat} {cs : List Value} {x : DataW H × List MemPlace} (h : DataW.trod enc Try.prog w 0 spare held n 54 cs = some x) (hl : cs.length = 4) : ∃ p : Quad, cs = [.int .i64 p.1, .int .i64 p.2.1, .int .i64 p.2.2.1, .int .i64 p.2.2.2] ∧ I64 p.1 ∧ I64 p.2.1 ∧ I64 p.2.2.1 ∧ I64 p.2.2.2 := by
  match cs, hl with
  | [c0, c1, c2, c3], _ =>
    obtain ⟨y0, y1, y2, y3, k, _, h0, h1, h2, h3⟩ := trod_array4 Try.underlying54 Try.cellsI h
    obtain ⟨n0, e0, _, b0⟩ := DataW.trod_int Try.underlying3 h0
    obtain ⟨n1, e1, _, b1⟩ := DataW.trod_int Try.underlying3 h1
    obtain ⟨n2, e2, _, b2⟩ := DataW.trod_int Try.underlying3 h2
    obtain ⟨n3, e3, _, b3⟩ := DataW.trod_int Try.underlying3 h3
    simp at e0 e1 e2 e3
    subst e0 e1 e2 e3
    exact ⟨(n0, n1, n2, n3), rfl, bounds_i64 b0, bounds_i64 b1, bounds_i64 b2, bounds_i64 b3⟩

set_option maxRecDepth 100000 in
theorem quads_open {n : Nat} {v : Value} {x : DataW H × List MemPlace} (h : DataW.trod enc Try.prog w 0 spare held n 53 [v] = some x) (hw : WOK 53 x.1) : ∃ pa P pc, v = .slice pa P.length pc ∧ RawM w pa P := by
  rcases open_slice Try.underlying53 h with ⟨hcs, _⟩ | ⟨a, len, cap, m, k, D, Pl, hcs, _, hlc, hcm, hm, rfl, hel⟩
  · simp at hcs; subst hcs; exact ⟨none, [], 0, rfl, by simp, by simp, by simp⟩
  · simp at hcs; subst hcs
    have hb := hw.slice Try.underlying53
    rw [Try.bytesA4] at hb
    unfold reachBytes at hb
    simp only [List.length_map, List.length_range] at hb
    have hml : len ≤ m := by rw [hm]; split <;> omega
    rw [Try.cellsA4] at hel
    by_cases h0 : len = 0
    · subst h0; exact ⟨some a, [], cap, rfl, by simp, by simp, by simp⟩
    obtain ⟨f, hf⟩ := @choose_lt Quad ⟨(0, 0, 0, 0)⟩ len (fun i p => w.cells? 0 (a.add (i * 4)) 4 = some [.int .i64 p.1, .int .i64 p.2.1, .int .i64 p.2.2.1, .int .i64 p.2.2.2] ∧ I64 p.1 ∧ I64 p.2.1 ∧ I64 p.2.2.1 ∧ I64 p.2.2.2) (fun i hi => by
      obtain ⟨cs', hc, ht⟩ := hel i (by omega)
      obtain ⟨p, rfl, hp⟩ := quad_open ht (World.cells?_some hc).2.1
      exact ⟨p, hc, hp⟩)
    obtain ⟨b, off, spot⟩ := a
    have hs : spot = none := by
      have := (World.cells?_some (hf 0 (by omega)).1).2.2 0 (by omega)
      simp [Addr.add] at this
      exact World.cell?_spot this
    subst hs
    refine ⟨some ⟨b, off, none⟩, (List.range len).map f, cap, by simp, by simp; omega, ?_, ?_⟩
    · intro c hc
      obtain ⟨i, hi, rfl⟩ := List.mem_map.1 hc
      exact (hf i (List.mem_range.1 hi)).2
    · intro i hi
      have hi' : i < len := by simpa using hi
      have hc : ∀ r v, r < 4 → [Value.int .i64 (f i).1, .int .i64 (f i).2.1, .int .i64 (f i).2.2.1, .int .i64 (f i).2.2.2][r]? = some v → w.cell? ⟨b, off + i * 4 + r, none⟩ = some v := by
        intro r v hr hv
        have := (World.cells?_some (hf i hi').1).2.2 r hr
        rw [hv, Addr.add_lit, Addr.add_lit] at this
        exact this
      refine ⟨b, off, rfl, ?_, ?_, ?_, ?_⟩
      · simpa using hc 0 _ (by omega) rfl
      · simpa using hc 1 _ (by omega) rfl
      · simpa using hc 2 _ (by omega) rfl
      · simpa using hc 3 _ (by omega) rfl

set_option maxRecDepth 100000 in
theorem bytes_open {n : Nat} {v : Value} {x : DataW H × List MemPlace} (h : DataW.trod enc Try.prog w 0 spare held n 46 [v] = some x) (hw : WOK 46 x.1) : ∃ sa L sc, v = .slice sa L.length sc ∧ BytesV w sa sc L := by
  rcases open_slice Try.underlying46 h with ⟨hcs, _⟩ | ⟨a, len, cap, m, k, D, Pl, hcs, _, hlc, hcm, hm, rfl, hel⟩
  · simp at hcs; subst hcs; exact ⟨none, [], 0, rfl, by simp, by simp, by simp, by simp⟩
  · simp at hcs; subst hcs
    have hb := hw.slice Try.underlying46
    rw [Try.bytesU8] at hb
    unfold reachBytes at hb
    simp only [List.length_map, List.length_range] at hb
    have hml : len ≤ m := by rw [hm]; split <;> omega
    rw [Try.cellsU8] at hel
    by_cases h0 : len = 0
    · subst h0; exact ⟨some a, [], cap, rfl, by simp, by simp, by simp, by simp⟩
    obtain ⟨f, hf⟩ := @choose_lt Int ⟨0⟩ len (fun i y => w.cell? (a.add i) = some (.int .u8 y) ∧ 0 ≤ y ∧ y ≤ 255) (fun i hi => by
      obtain ⟨cs', hc, ht⟩ := hel i (by omega)
      rw [Nat.mul_one] at hc
      obtain ⟨y, rfl, _, hy⟩ := DataW.trod_int Try.underlying5 ht
      exact ⟨y, cell_of_cells?_one hc, bounds_u8 hy⟩)
    obtain ⟨b, off, spot⟩ := a
    have hs : spot = none := by
      have hu := (hf 0 (by omega)).1
      simp [Addr.add] at hu
      exact World.cell?_spot hu
    subst hs
    have hcell : ∀ i, i < len → w.cell? ⟨b, off + i, none⟩ = some (.int .u8 (f i)) := by
      intro i hi
      have := (hf i hi).1
      rw [Addr.add_lit] at this
      exact this
    refine ⟨some ⟨b, off, none⟩, (List.range len).map f, cap, by simp, by simp; omega, by simp; omega, ?_, fun _ => ⟨b, off, rfl, ?_, lt_of_cell (hcell 0 (by omega))⟩⟩
    · intro c hc
      obtain ⟨i, hi, rfl⟩ := List.mem_map.1 hc
      have := (hf i (List.mem_range.1 hi)).2
      omega
    · intro j v hv
      have hj : j < len := by have := (List.getElem?_eq_some_iff.1 hv).1; simpa [byteV] using this
      simp [byteV, hj] at hv
      subst hv
      exact hcell j hj
end
end Go.Proofs.Ytndlmgocldckfaa

namespace Go.Proofs.Ytndlmgocldckfaa
open Go.ChangeShapes Go.WideShapes Go.ChangeAt Go.RowKit
set_option linter.unusedVariables false
set_option linter.unusedSimpArgs false

set_option maxRecDepth 100000 in
set_option maxHeartbeats 1000000 in
theorem liftedY (os : Os) (started : os.Started) (H : Type) (enc : TypeId × Value → H) :
    ReturnsInHanded {} Try.checked os 6 .any (Rows.writtenSpec.pre6 enc Try.prog Try.f6 Rows.writtenRow.domain false) (Rows.writtenSpec.post enc Try.prog Try.f6 false true false false) := by
  refine returnsInHanded_of_change_sized (C := Try.checked) own started (by kernel_rfl) Try.func6
    (ChangeSpec.witness6 (enc := enc) (C := Try.checked) false ⟨#[], #[.agg #[.slice none 0 0, .slice none 0 0, .slice none 0 0], .slice none 0 0, .slice none 0 0], []⟩ 8 (by kernel_rfl) (by kernel_rfl) (by kernel_rfl) (by kernel_rfl)) ?_
  intro W base args ds gs before hval0 hW hcnd hwt0 _
  have hval : ∀ (j : Nat) t v, Try.f6.params[j]? = some t → args[j]? = some v → Value.okWide Try.prog W .any base t v := hval0
  have hwt : (DataW.weightsEach Try.prog (Try.f6.params.toList ++ DataSpec.varTypes Try.prog Rows.writtenSpec.plain) (ds ++ gs)).all (· ≤ reachBytes) = true := hwt0
  have hW' := hW
  obtain ⟨p, q, hA0, hV, rfl, hfz, hnd⟩ := hW
  have hA : DataW.TrodAll enc Try.prog W 0 (fun _ => true) true Try.f6.params.toList args.toList ds p := hA0
  rw [Try.params6] at hA hval hwt
  obtain ⟨v0, vs0, d0, ds0, p0, q0, hargs, rfl, rfl, h0, r0⟩ := trodAll_cons hA
  obtain ⟨v1, vs1, d1, ds1, p1, q1, rfl, rfl, rfl, h1, r1⟩ := trodAll_cons r0
  obtain ⟨v2, vs2, d2, ds2, p2, q2, rfl, rfl, rfl, h2, r2⟩ := trodAll_cons r1
  obtain ⟨rfl, rfl, rfl⟩ := trodAll_nil r2
  obtain rfl : args = #[v0, v1, v2] := by cases args; simp_all
  obtain ⟨rfl, rfl⟩ := trodVars_none hV
  have k0 := h0
  have k1 := h1
  have k2 := h2
  have lt0 : ∀ x ∈ p0, x.block < W.heap.size := by obtain ⟨m, hm⟩ := k0; exact DataW.trod_lt m _ _ _ hm
  have lt1 : ∀ x ∈ p1, x.block < W.heap.size := by obtain ⟨m, hm⟩ := k1; exact DataW.trod_lt m _ _ _ hm
  have lt2 : ∀ x ∈ p2, x.block < W.heap.size := by obtain ⟨m, hm⟩ := k2; exact DataW.trod_lt m _ _ _ hm
  have wok : WOK 25 d0 := by
    intro n hn
    have := List.all_eq_true.1 hwt n (DataW.weights_mem_each (j := 0) rfl rfl n hn)
    simpa using this
  obtain ⟨sa, da, pa, sc, dc, pc, L, D, P, rfl, hL, hD, hP⟩ := case_open (okWide_struct Try.underlying25 (hval 0 25 v0 rfl rfl)) h0 wok
  have wok1 : WOK 53 d1 := by
    intro n hn
    have := List.all_eq_true.1 hwt n (DataW.weights_mem_each (j := 1) rfl rfl n hn)
    simpa using this
  obtain ⟨a1, len1, cap1, hv1⟩ := okWide_slice Try.underlying53 (hval 1 53 v1 rfl rfl)
  subst hv1
  obtain ⟨m1, hm1⟩ := h1
  obtain ⟨ia, I, ic, hi1, hI1⟩ := quads_open hm1 wok1
  have wok2 : WOK 46 d2 := by
    intro n hn
    have := List.all_eq_true.1 hwt n (DataW.weights_mem_each (j := 2) rfl rfl n hn)
    simpa using this
  obtain ⟨a2, len2, cap2, hv2⟩ := okWide_slice Try.underlying46 (hval 2 46 v2 rfl rfl)
  subst hv2
  obtain ⟨m2, hm2⟩ := h2
  obtain ⟨ba, B, bc, hi2, hI2⟩ := bytes_open hm2 wok2
  simp only [Value.slice.injEq] at hi1 hi2
  obtain ⟨rfl, rfl, rfl⟩ := hi1
  obtain ⟨rfl, rfl, rfl⟩ := hi2
  clear hA0 hval0 hwt0
  refine (written_any sa da pa _ _ sc dc pc _ _ L D P I B W hL hD hP hI1 hI2).mono fun e W' ⟨he, bel⟩ => ?_
  subst he
  exact ⟨_, rfl, _, _, _, [], _, [], hW', trodAll_mk1 (shut_bool Try.underlying4 _), (trodAll_cons_mk (Below.trod laidOut (by kernel_rfl) (of_decide_eq_true (by kernel_rfl)) k0 bel lt0) (trodAll_cons_mk (Below.trod laidOut (by kernel_rfl) (of_decide_eq_true (by kernel_rfl)) k1 bel lt1) (trodAll_cons_mk (Below.trod laidOut (by kernel_rfl) (of_decide_eq_true (by kernel_rfl)) k2 bel lt2) trodAll_mk0))), rfl, bel.frame _, fun h => by cases h⟩

theorem overY : Rows.writtenRow.holds Try.pinned (OpenSpec.ofChange Rows.writtenSpec) :=
  OpenClaim.holds_of_wide 6 Try.f6 rfl rfl rfl rfl rfl rfl rfl ⟨rfl, rfl, rfl, rfl, rfl⟩ rfl rfl rfl rfl rfl (by kernel_rfl) Try.func6 (by kernel_rfl)
    (of_decide_eq_true (by kernel_rfl)) (by unfold Func.isWrapper; first | (rw [if_pos (by decide +kernel)]; kernel_rfl) | (rw [if_neg (by decide +kernel)]; exact ⟨rfl, rfl⟩))
    (fun os started H enc _ => liftedY os started H enc)

theorem written_holds : Rows.WrittenSaid := overY
end Go.Proofs.Ytndlmgocldckfaa
