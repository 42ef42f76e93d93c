import Derived.Test.YtndlmgocldckfaaGreatG22
import Derived.Deep.RegionHeld3
import Derived.Lib.SmallJoins
import Derived.Test.YtndlmgocldckfaaGreatG17
import Derived.Test.YtndlmgocldckfaaGreatG03
import Derived.Test.YtndlmgocldckfaaGreatG08
namespace Go.Proofs.YtndlmgocldckfaaGreat
open Go.RowKit
set_option linter.unusedVariables false
set_option linter.unusedSimpArgs false
set_option maxRecDepth 100000
set_option maxHeartbeats 4000000
theorem rSame_any (a b : Rec) (sa sb : Option Addr) (ca cb : Nat) (w : World) (h1 : ToldIn w sa a.told) (h2 : ToldIn w sb b.told) (hl : a.told.length ≤ 1000000000000000) :
  Calls Tryz.prog 72 #[.agg #[.int .i64 a.e.number, .int .i64 a.e.time, .int .i64 a.e.kind, .int .i64 a.e.entity, .slice sa a.told.length ca], .agg #[.int .i64 b.e.number, .int .i64 b.e.time, .int .i64 b.e.kind, .int .i64 b.e.entity, .slice sb b.told.length cb]] w fun e w' => e = .returned (.bool (recEq a b)) ∧ Below w.heap.size w w' := by
 obtain ⟨⟨a1, a2, a3, a4⟩, l⟩ := a
 obtain ⟨⟨b1, b2, b3, b4⟩, m⟩ := b
 simp only at h1 h2 hl ⊢
 obtain ⟨W1, hW1⟩ : ∃ W1, W1 = (w.alloc (.cells #[.int .i64 a2, .int .i64 a1, .int .i64 a3, .int .i64 a4, .slice sa l.length ca] 46)).alloc (.cells #[.int .i64 b2, .int .i64 b1, .int .i64 b3, .int .i64 b4, .slice sb m.length cb] 46) := ⟨_, rfl⟩
 have hb1 : Below w.heap.size w W1 := by rw [hW1]; exact ((Below.refl _ _).alloc (Nat.le_refl _) _).alloc (by simp) _
 have hz1 : W1.heap.size = w.heap.size + 2 := by rw [hW1]; simp
 have x4 : W1.cell? ⟨w.heap.size, 4, none⟩ = some (.slice sa l.length ca) := by rw [hW1]; simp [go_sem]
 have y4 : W1.cell? ⟨w.heap.size + 1, 4, none⟩ = some (.slice sb m.length cb) := by rw [hW1]; simp [go_sem]
 have HB1 := hide hb1
 have H1 := hide (h1.below hb1)
 have H2 := hide (h2.below hb1)
 clear h1 h2 hb1
 have HF : Hid (recEq ⟨⟨a1, a2, a3, a4⟩, l⟩ ⟨⟨b1, b2, b3, b4⟩, m⟩ = (decide (a2 = b2) && (decide (a1 = b1) && (decide (a3 = b3) && (decide (a4 = b4) && decide (l = m)))))) := by show _ = _; rfl
 by_cases e2 : a2 = b2
 rotate_left
 ·have d : (a2 != b2) = true := by simpa using e2
  have hf : recEq ⟨⟨a1, a2, a3, a4⟩, l⟩ ⟨⟨b1, b2, b3, b4⟩, m⟩ = false := by rw [HF.out]; simp [e2]
  rw [hf]
  go_enter Tryz.func72, Tryz.ntmps72
  go_wp2_with fail
  go_ret
  exact ⟨rfl, by rw [← hW1]; exact HB1.out⟩
 by_cases e1 : a1 = b1
 rotate_left
 ·have d : (a1 != b1) = true := by simpa using e1
  have hf : recEq ⟨⟨a1, a2, a3, a4⟩, l⟩ ⟨⟨b1, b2, b3, b4⟩, m⟩ = false := by rw [HF.out]; simp [e1]
  rw [hf]
  subst e2
  go_enter Tryz.func72, Tryz.ntmps72
  go_wp2_with fail
  go_ret
  exact ⟨rfl, by rw [← hW1]; exact HB1.out⟩
 by_cases e3 : a3 = b3
 rotate_left
 ·have d : (a3 != b3) = true := by simpa using e3
  have hf : recEq ⟨⟨a1, a2, a3, a4⟩, l⟩ ⟨⟨b1, b2, b3, b4⟩, m⟩ = false := by rw [HF.out]; simp [e3]
  rw [hf]
  subst e2 e1
  go_enter Tryz.func72, Tryz.ntmps72
  go_wp2_with fail
  go_ret
  exact ⟨rfl, by rw [← hW1]; exact HB1.out⟩
 by_cases e4 : a4 = b4
 rotate_left
 ·have d : (a4 != b4) = true := by simpa using e4
  have hf : recEq ⟨⟨a1, a2, a3, a4⟩, l⟩ ⟨⟨b1, b2, b3, b4⟩, m⟩ = false := by rw [HF.out]; simp [e4]
  rw [hf]
  subst e2 e1 e3
  go_enter Tryz.func72, Tryz.ntmps72
  go_wp2_with fail
  go_ret
  exact ⟨rfl, by rw [← hW1]; exact HB1.out⟩
 subst e2 e1 e3 e4
 have HR : Hid (recEq ⟨⟨a1, a2, a3, a4⟩, l⟩ ⟨⟨a1, a2, a3, a4⟩, m⟩ = decide (l = m)) := by show _ = _; rw [HF.out]; simp
 clear HF
 by_cases hlen : l.length = m.length
 rotate_left
 ·have d0 : ((l.length : Int) != (m.length : Int)) = true := by simpa using (by omega : ¬ (l.length : Int) = (m.length : Int))
  have hne : decide (l = m) = false := by simp; intro hc; exact hlen (by rw [hc])
  rw [HR.out, hne]
  go_enter Tryz.func72, Tryz.ntmps72
  go_wp2_with fail
  go_ret
  exact ⟨rfl, by rw [← hW1]; exact HB1.out⟩
 rw [HR.out]
 rw [← hlen] at y4 hW1
 rw [← hlen]
 have Hlen := hide hlen
 clear hlen HR
 go_enter Tryz.func72, Tryz.ntmps72
 go_wp2_with fail
 rw [← hW1]
 have HW1 := hide hW1
 clear hW1
 go_loopg [5] (l.length + 3) (fun g s9 wr => ∃ (i : Nat), s9 = .int .i64 i ∧ l.length - i + 2 ≤ g ∧ i ≤ l.length ∧ Hid (Below W1.heap.size W1 wr ∧ l.take i = m.take i))
 case atStart => exact ⟨0, rfl, by omega, by omega, Below.refl _ _, by simp⟩
 case round =>
  obtain ⟨i, rfl, hg, hi, hI⟩ := hrel
  have p4 := below_at hI.out.1 x4 (by omega)
  have q4 := below_at hI.out.1 y4 (by omega)
  by_cases hlt : i < l.length
  ·have d1 : decide ((i : Int) < (l.length : Int)) = true := by simp; omega
   have hii : (i : Int) < (l.length : Int) := by omega
   have hw : IntKind.i64.wrap ((i : Int) + 1) = (i : Int) + 1 := by rw [IntKind.wrap_i64]; omega
   have hlm : i < m.length := by have := Hlen.out; omega
   obtain ⟨g1, o1, rfl, c1⟩ := H1.out i l[i] (List.getElem?_eq_getElem hlt)
   obtain ⟨g2, o2, rfl, c2⟩ := H2.out i m[i] (List.getElem?_eq_getElem hlm)
   replace c1 := below_at hI.out.1 c1 (lt_of_cell c1)
   replace c2 := below_at hI.out.1 c2 (lt_of_cell c2)
   have HN : Hid (¬ l[i] = m[i] → decide (l = m) = false) := by
    intro hne
    simp only [decide_eq_false_iff_not]
    intro hc
    subst hc
    exact hne rfl
   have HY : Hid (l[i] = m[i] → l.take (i + 1) = m.take (i + 1)) := by
    intro he
    rw [List.take_succ_eq_append_getElem hlt, List.take_succ_eq_append_getElem hlm, hI.out.2, he]
   generalize l[i] = x at c1 HN HY
   generalize m[i] = y at c2 HN HY
   clear x4 y4
   by_cases hxy : x = y
   ·subst hxy
    have hT := HY.out rfl
    have HT := hide hT
    clear hT HN HY
    go_wp2_with fail
    go_quiet (fail)
    go_wp2_with fail
    go_roundg (l.length - (i + 1) + 2)
    case measure => omega
    case rel => exact ⟨i + 1, by go_num, Nat.le_refl _, by omega, below_drewN hI.out.1 _, HT.out⟩
   ·have hne : (x != y) = true := by simpa using hxy
    have hF := HN.out hxy
    have HF := hide hF
    clear hF HN HY
    go_wp2_with fail
    go_quiet (fail)
    go_wp2_with fail
    go_ret
    exact ⟨by rw [HF.out]; rfl, HB1.out.trans ((below_drewN hI.out.1 _).mono (by omega))⟩
  ·have d1 : decide ((i : Int) < (l.length : Int)) = false := by simp; omega
   have he : l = m := by
    have h1 := hI.out.2
    rw [List.take_of_length_le (by omega), List.take_of_length_le (by have := Hlen.out; omega)] at h1
    exact h1
   have hd : decide (l = m) = true := by simpa using he
   have Hd := hide hd
   clear he hd
   go_wp2_with fail
   go_ret
   exact ⟨by rw [Hd.out]; rfl, HB1.out.trans (hI.out.1.mono (by omega))⟩
theorem eqlNilR (w : World) (a : Option Addr) (n c : Nat) : (binOp .eql 39 (.slice a n c) (.slice none 0 0)).run Tryz.prog w = .ok (.bool a.isNone) w := Lib.run_eql_slice_nil w _ _ a n c 0 0 Tryz.underlying39
attribute [local go_sem] eqlNilR
theorem AllR.below {w w' : World} {Z : Nat} {av : Value} {L : List RecC} {rs : List Rec} (h : AllR w Z av L rs) (hb : Below w.heap.size w w') : AllR w' Z av L rs := h.only (Only.new (S := fun _ => False) hb) (by simp)
theorem recEq_self (r : Rec) : recEq r r = true := (recEq_iff r r).2 rfl
theorem records_any {Z : Nat} (wb : Nat) (k : BkD) (la ma : Option Addr) (n lc mc : Nat) (L : List RecC) (rs : List Rec) (e : Int) (w : World) (h : BkP w wb k) (hl : AllR w Z (.slice la n lc) L rs) (hA : ApartR L) (hm : RecIn w ma rs) (hZ : Z ≤ w.heap.size) (hn : n ≤ 1000) (ht : ∀ r ∈ rs, r.told.length ≤ 1000000) (h4 : k.il.length % 4 = 0) (h4r : k.rl.length % 4 = 0) (hlen : k.il.length + 4 * n ≤ 1099511627776) (hlenr : k.rl.length ≤ 1099511627776) (hls : ∀ b, AllSet (.slice la n lc) L b → ¬ k.set b ∧ b ≠ wb) (he : e = 0 ∨ (la = none ∧ n = 0 ∧ lc = 0)) :
  Calls Tryz.prog 36 #[.pointer (some ⟨wb, 0, none⟩), .slice la n lc, .int .i64 e, .slice ma n mc, .int .i64 e] w fun x w' => x = .returned (.bool true) ∧ ∃ k', BkStep wb k k' (AllSet (.slice la n lc) L) w w' ∧ k'.il.length ≤ k.il.length + 4 * n ∧ k'.il.length % 4 = 0 ∧ k'.rl.length = k.rl.length + 4 ∧ k'.bl = k.bl := by
 have hrn : rs.length = n := by
  obtain ⟨_, _, hc⟩ := owns_formK hl.row
  simp only [Value.slice.injEq] at hc
  rw [← hl.len]; exact hc.2.1.symm
 have HK : Hid (∀ w', Below w.heap.size w w' → Calls Tryz.prog 73 #[.pointer (some ⟨wb, 1, none⟩), .slice la n lc] w' fun e w'' => e = .returned (.tuple #[]) ∧ ∃ k', BkStep wb k k' (AllSet (.slice la n lc) L) w w'' ∧ k'.il.length ≤ k.il.length + 4 * n ∧ k'.il.length % 4 = 0 ∧ k'.rl.length = k.rl.length + 4 ∧ k'.bl = k.bl) := by
  intro w' hb
  refine (keepsRecords_any wb k la n lc L rs w' (h.below hb) (hl.below hb) hA (Nat.le_trans hZ hb.size) hn ht h4 h4r hlen hlenr hls).mono ?_
  rintro e w'' ⟨rfl, k', hs, hrest⟩
  exact ⟨rfl, k', hs.pre (Only.new hb) (fun hc => (hls wb hc).2 rfl), hrest⟩
 obtain ⟨la', lcap, hlv, hLI⟩ := hl.recIn
 rw [hrn] at hlv
 simp only [Value.slice.injEq, true_and] at hlv
 obtain ⟨rfl, rfl⟩ := hlv
 have HL := hide hLI
 have HM := hide hm
 have Ht := hide ht
 have Hrn := hide hrn
 have hwl := h.lt
 clear h hl hA hm ht hls hLI hrn h4 h4r hlen hlenr
 have hee : (e == e) = true := by simp
 have hnn : ((n : Int) == (n : Int)) = true := by simp
 have hcase : (la = none ∧ n = 0) ∨ (∃ a, la = some a) ∧ e = 0 := by
  rcases la with _ | a
  ·refine .inl ⟨rfl, ?_⟩
   rcases Nat.eq_zero_or_pos n with h0 | h0
   ·exact h0
   ·obtain ⟨_, _, _, _, hx, _⟩ := HL.out 0 (rs[0]'(by have := Hrn.out; omega)) (List.getElem?_eq_getElem _)
    cases hx
  ·rcases he with he | ⟨he, _⟩
   ·exact .inr ⟨⟨a, rfl⟩, he⟩
   ·cases he
 clear he
 have hn0 : (n : Int) ≤ 1000 := by omega
 rcases hcase with ⟨rfl, hn00⟩ | ⟨⟨a, rfl⟩, rfl⟩
 ·have Hn00 := hide hn00
  clear hn00
  go_enter Tryz.func36, Tryz.ntmps36
  go_wp2_with fail
  go_loopg [11, 12] (n + 3) (fun g s11 s12 wr => ∃ (i : Nat), s11 = .bool true ∧ s12 = .int .i64 i ∧ n - i + 2 ≤ g ∧ i ≤ n ∧ Hid (Below w.heap.size w wr))
  case atStart => exact ⟨0, rfl, rfl, by omega, by omega, Below.refl _ _⟩
  case round =>
   obtain ⟨i, rfl, rfl, hg, hi, hI⟩ := hrel
   have hlt : ¬ i < n := by have := Hn00.out; omega
   have d1 : decide ((i : Int) < (n : Int)) = false := by simp; omega
   have HKK := hide (HK.out wr hI.out)
   go_wp2_with fail
   refine HKK.out.mono ?_
   rintro e5 w5 ⟨rfl, k', hs, hrest⟩
   have HS := hide hs
   have HR := hide hrest
   clear hs hrest HKK
   go_wp2_with fail
   go_ret
   exact ⟨rfl, k', HS.out, HR.out⟩
 ·go_enter Tryz.func36, Tryz.ntmps36
  go_wp2_with fail
  go_loopg [11, 12] (n + 3) (fun g s11 s12 wr => ∃ (i : Nat), s11 = .bool true ∧ s12 = .int .i64 i ∧ n - i + 2 ≤ g ∧ i ≤ n ∧ Hid (Below w.heap.size w wr))
  case atStart => exact ⟨0, rfl, rfl, by omega, by omega, Below.refl _ _⟩
  case round =>
   obtain ⟨i, rfl, rfl, hg, hi, hI⟩ := hrel
   by_cases hlt : i < n
   ·have d1 : decide ((i : Int) < (n : Int)) = true := by simp; omega
    have hii : (i : Int) < (n : Int) := by omega
    have hw : IntKind.i64.wrap ((i : Int) + 1) = (i : Int) + 1 := by rw [IntKind.wrap_i64]; omega
    have hir : i < rs.length := by have := Hrn.out; omega
    have htl := Ht.out rs[i] (List.getElem_mem hir)
    obtain ⟨g1, o1, sa, sca, hla, c0, c1, c2, c3, c4, ct⟩ := (HL.out.below hI.out) i rs[i] (List.getElem?_eq_getElem hir)
    obtain ⟨g2, o2, sb, scb, hma, e0, e1, e2, e3, e4, et⟩ := (HM.out.below hI.out) i rs[i] (List.getElem?_eq_getElem hir)
    cases hla
    cases hma
    have HX := hide (rSame_any rs[i] rs[i] sa sb sca scb wr.drew (ct.below (Below.refl _ _).drew) (et.below (Below.refl _ _).drew) (by omega))
    rw [recEq_self] at HX
    generalize rs[i] = x at c0 c1 c2 c3 c4 e0 e1 e2 e3 e4 HX
    obtain ⟨⟨xt, xn, xk, xe⟩, xl⟩ := x
    simp only at c0 c1 c2 c3 c4 e0 e1 e2 e3 e4 HX
    clear ct et htl
    go_wp2_with fail
    go_region_held3 (fun W' => W'.cell? ⟨g1, o1 + i * 5, none⟩ = some (.int .i64 xn) ∧ W'.cell? ⟨g1, o1 + i * 5 + 1, none⟩ = some (.int .i64 xt) ∧ W'.cell? ⟨g1, o1 + i * 5 + 2, none⟩ = some (.int .i64 xk) ∧ W'.cell? ⟨g1, o1 + i * 5 + 3, none⟩ = some (.int .i64 xe) ∧ W'.cell? ⟨g1, o1 + i * 5 + 4, none⟩ = some (.slice sa xl.length sca) ∧ W'.cell? ⟨g2, o2 + i * 5, none⟩ = some (.int .i64 xn) ∧ W'.cell? ⟨g2, o2 + i * 5 + 1, none⟩ = some (.int .i64 xt) ∧ W'.cell? ⟨g2, o2 + i * 5 + 2, none⟩ = some (.int .i64 xk) ∧ W'.cell? ⟨g2, o2 + i * 5 + 3, none⟩ = some (.int .i64 xe) ∧ W'.cell? ⟨g2, o2 + i * 5 + 4, none⟩ = some (.slice sb xl.length scb))
     (first | exact ⟨c0, c1, c2, c3, c4, e0, e1, e2, e3, e4⟩ | exact ⟨below_at hb2 c0 (lt_of_cell c0), below_at hb2 c1 (lt_of_cell c1), below_at hb2 c2 (lt_of_cell c2), below_at hb2 c3 (lt_of_cell c3), below_at hb2 c4 (lt_of_cell c4), below_at hb2 e0 (lt_of_cell e0), below_at hb2 e1 (lt_of_cell e1), below_at hb2 e2 (lt_of_cell e2), below_at hb2 e3 (lt_of_cell e3), below_at hb2 e4 (lt_of_cell e4)⟩)
     (first | (go_at_call 72; refine HX.out.mono ?_; rintro e' w2 ⟨rfl, hb2'⟩; (have hb2 : Below wr.heap.size wr w2 := (Below.refl _ _).drew.trans hb2')))
    have HB2 : Hid (Below w.heap.size w w2) := hI.out.trans (hb2.mono hI.out.size)
    clear hb2 hb2' HX c0 c1 c2 c3 c4 e0 e1 e2 e3 e4
    go_wp2_with fail
    go_roundg (n - (i + 1) + 2)
    case measure => omega
    case rel => exact ⟨i + 1, rfl, by go_num, Nat.le_refl _, by omega, HB2.out⟩
   ·have d1 : decide ((i : Int) < (n : Int)) = false := by simp; omega
    have HKK := hide (HK.out wr hI.out)
    go_wp2_with fail
    refine HKK.out.mono ?_
    rintro e5 w5 ⟨rfl, k', hs, hrest⟩
    have HS := hide hs
    have HR := hide hrest
    clear hs hrest HKK
    go_wp2_with fail
    go_ret
    exact ⟨rfl, k', HS.out, HR.out⟩
theorem cutR_any (n : Int) (w : World) :
  Calls Tryz.prog 129 #[.int .i64 n] w fun e w' => e = .returned (.int .i64 (cutF n)) ∧ w' = w := by
 have HC : Hid (∀ x, x = cutF n → Ending.returned (.int .i64 x) = Ending.returned (.int .i64 (cutF n))) := fun x h => by rw [h]
 go_enter Tryz.func129, Tryz.ntmps129
 go_wp2
 all_goals
  go_ret
  refine ⟨HC.out _ ?_, rfl⟩
  unfold cutF
  omega
theorem EvsIn.src {R : Nat → Prop} {w : World} {v : Value} {q : List Ev} (h : EvsIn R w v q) : SrcAt w v q.length (flat (q.map evIns)) := by
 obtain ⟨rfl, rfl⟩ | ⟨b, off, cap, rfl, _, _, _, hc⟩ := h
 ·exact .inl ⟨rfl, rfl, rfl⟩
 ·exact .inr (.inl ⟨b, off, cap, rfl, hc.row⟩)
structure RefC (R : Nat → Prop) (w : World) (cb gb : Nat) (ents : Int) (ks : List (List Ins)) (draws : List Int) (s : KS) : Prop where
 c0 : w.cell? ⟨cb, 0, none⟩ = some (.int .i64 ents)
 kinds : ∃ kv, w.cell? ⟨cb, 1, none⟩ = some kv ∧ KindsIn R w kv ks
 draw : ∃ dv, w.cell? ⟨cb, 2, none⟩ = some dv ∧ IntsIn R w dv draws
 c3 : w.cell? ⟨cb, 3, none⟩ = some (.int .i64 s.taken)
 c4 : w.cell? ⟨cb, 4, none⟩ = some (.int .i64 s.clock)
 c5 : w.cell? ⟨cb, 5, none⟩ = some (.int .i64 s.next)
 c6 : ∃ cap, w.cell? ⟨cb, 6, none⟩ = some (.slice (some ⟨gb, 0, none⟩) (ents * 4).toNat cap) ∧ (ents * 4).toNat ≤ cap ∧ cap ≤ 9223372036854775807
 regs : ∀ j, j < (ents * 4).toNat → w.cell? ⟨gb, j, none⟩ = some (.int .i64 (s.regs j))
 rroom : Room w gb (ents * 4).toNat
 que : ∃ qv, w.cell? ⟨cb, 7, none⟩ = some qv ∧ EvsIn R w qv s.q
 room : Room w cb 8
 ne : cb ≠ gb
 far : ∀ b, R b → b < w.heap.size ∧ b ≠ cb ∧ b ≠ gb
theorem RefC.only {R S : Nat → Prop} {w w' : World} {cb gb : Nat} {ents : Int} {ks : List (List Ins)} {draws : List Int} {s : KS} (h : RefC R w cb gb ents ks draws s) (ho : Only S w w') (hR : ∀ b, R b → ¬ S b) (hc : ¬ S cb) (hg : ¬ S gb) : RefC R w' cb gb ents ks draws s := by
 obtain ⟨kv, k1, k2⟩ := h.kinds
 obtain ⟨dv, d1, d2⟩ := h.draw
 obtain ⟨cap, r1, r2, r3⟩ := h.c6
 obtain ⟨qv, q1, q2⟩ := h.que
 exact ⟨ho.at h.c0 hc, ⟨kv, ho.at k1 hc, k2.only ho hR⟩, ⟨dv, ho.at d1 hc, d2.only ho hR⟩, ho.at h.c3 hc, ho.at h.c4 hc, ho.at h.c5 hc, ⟨cap, ho.at r1 hc, r2, r3⟩, fun j hj => ho.at (h.regs j hj) hg, h.rroom.only ho hg, ⟨qv, ho.at q1 hc, q2.only ho hR⟩, h.room.only ho hc, h.ne, fun b hb => ⟨Nat.lt_of_lt_of_le (h.far b hb).1 ho.size, (h.far b hb).2⟩⟩
theorem RefC.ref {R : Nat → Prop} {w : World} {cb gb : Nat} {ents : Int} {ks : List (List Ins)} {draws : List Int} {s : KS} (h : RefC R w cb gb ents ks draws s) (he : 0 ≤ ents ∧ ents ≤ 8) : RefK (fun b => R b ∨ b = gb) w cb ents ks draws s.taken s.clock s.next (regL ents s) s.q := by
 obtain ⟨kv, k1, k2⟩ := h.kinds
 obtain ⟨dv, d1, d2⟩ := h.draw
 obtain ⟨cap, r1, r2, r3⟩ := h.c6
 obtain ⟨qv, q1, q2⟩ := h.que
 refine ⟨⟨kv, dv, _, qv, h.c0, k1, d1, h.c3, h.c4, h.c5, r1, q1, k2.mono (fun b hb => .inl hb), d2.mono (fun b hb => .inl hb), ⟨by rw [regL_length]; omega, .inr ⟨gb, 0, cap, by rw [regL_length], .inr rfl, ?_⟩⟩, q2.mono (fun b hb => .inl hb)⟩, h.room⟩
 intro j v hv
 have hj : j < (ents * 4).toNat := by have := (List.getElem?_eq_some_iff.1 hv).1; simpa [ints, regL] using this
 simp [ints, regL, hj] at hv
 subst hv
 rw [Nat.zero_add]
 exact h.regs j hj
theorem copied_any {R : Nat → Prop} (rb : Nat) (ents : Int) (ks : List (List Ins)) (draws : List Int) (s : KS) (w : World) (h : RefK R w rb ents ks draws s.taken s.clock s.next (regL ents s) s.q) (he : 1 ≤ ents ∧ ents ≤ 8) (hR : ∀ b, R b → b < w.heap.size) (hq : s.q.length ≤ 16) :
  Calls Tryz.prog 91 #[.pointer (some ⟨rb, 0, none⟩)] w fun e w' => ∃ cb gb, e = .returned (.pointer (some ⟨cb, 0, none⟩)) ∧ Below w.heap.size w w' ∧ w.heap.size ≤ cb ∧ cb < w'.heap.size ∧ w.heap.size ≤ gb ∧ gb < w'.heap.size ∧ RefC (fun b => R b ∨ (w.heap.size ≤ b ∧ b < w'.heap.size ∧ b ≠ cb ∧ b ≠ gb)) w' cb gb ents ks draws s := by
 obtain ⟨⟨kv, dv, rv, qv, h0, h1, h2, h3, h4, h5, h6, h7, hk, hd, hr, hqv⟩, hroom⟩ := h
 obtain ⟨ka, kc, rfl⟩ := hk.form
 obtain ⟨da, dc, rfl⟩ := hd.form
 obtain ⟨ra, rc, rfl⟩ := hr.form
 obtain ⟨qa, qc, rfl⟩ := hqv.form
 have Hk := hide hk
 have Hd := hide hd
 have Hr := hide hr
 have Hq := hide hqv
 have hrl := lt_of_cell h0
 clear hk hd hr hqv hroom
 go_enter Tryz.func91, Tryz.ntmps91
 go_wp2_with fail
 have a0 : ∀ o, (w.alloc o).cell? ⟨rb, 0, none⟩ = some (.int .i64 ents) := fun o => below_at ((Below.refl w.heap.size w).alloc (Nat.le_refl _) o) h0 hrl
 have a1 : ∀ o, (w.alloc o).cell? ⟨rb, 1, none⟩ = some (.slice ka ks.length kc) := fun o => below_at ((Below.refl w.heap.size w).alloc (Nat.le_refl _) o) h1 hrl
 have a2 : ∀ o, (w.alloc o).cell? ⟨rb, 2, none⟩ = some (.slice da draws.length dc) := fun o => below_at ((Below.refl w.heap.size w).alloc (Nat.le_refl _) o) h2 hrl
 have a3 : ∀ o, (w.alloc o).cell? ⟨rb, 3, none⟩ = some (.int .i64 s.taken) := fun o => below_at ((Below.refl w.heap.size w).alloc (Nat.le_refl _) o) h3 hrl
 have a4 : ∀ o, (w.alloc o).cell? ⟨rb, 4, none⟩ = some (.int .i64 s.clock) := fun o => below_at ((Below.refl w.heap.size w).alloc (Nat.le_refl _) o) h4 hrl
 have a5 : ∀ o, (w.alloc o).cell? ⟨rb, 5, none⟩ = some (.int .i64 s.next) := fun o => below_at ((Below.refl w.heap.size w).alloc (Nat.le_refl _) o) h5 hrl
 go_region_held3 (fun W' => W'.cell? ⟨rb, 0, none⟩ = some (.int .i64 ents) ∧ W'.cell? ⟨rb, 1, none⟩ = some (.slice ka ks.length kc) ∧ W'.cell? ⟨rb, 2, none⟩ = some (.slice da draws.length dc) ∧ W'.cell? ⟨rb, 3, none⟩ = some (.int .i64 s.taken) ∧ W'.cell? ⟨rb, 4, none⟩ = some (.int .i64 s.clock) ∧ W'.cell? ⟨rb, 5, none⟩ = some (.int .i64 s.next))
  (first | exact ⟨h0, h1, h2, h3, h4, h5⟩ | exact ⟨a0 _, a1 _, a2 _, a3 _, a4 _, a5 _⟩)
  (fail)
 go_wp2_with fail
 clear a0 a1 a2 a3 a4 a5
 obtain ⟨C, hC⟩ : ∃ C : Obj, C = .cells #[.int .i64 ents, .slice ka ks.length kc, .slice da draws.length dc, .int .i64 s.taken, .int .i64 s.clock, .int .i64 s.next, .slice none 0 0, .slice none 0 0] 117 := ⟨_, rfl⟩
 obtain ⟨W1, hW1⟩ : ∃ W1, W1 = (w.alloc C).drew := ⟨_, rfl⟩
 have hb1 : Below w.heap.size w W1 := by rw [hW1]; exact ((Below.refl _ _).alloc (Nat.le_refl _) _).drew
 have hz1 : W1.heap.size = w.heap.size + 1 := by rw [hW1]; show (w.alloc C).heap.size = _; simp
 rw [← hC, ← hW1]
 have x : ∀ (j : Nat) v, #[Value.int .i64 ents, .slice ka ks.length kc, .slice da draws.length dc, .int .i64 s.taken, .int .i64 s.clock, .int .i64 s.next, .slice none 0 0, .slice none 0 0][j]? = some v → W1.cell? ⟨w.heap.size, j, none⟩ = some v := by
  intro j v hv
  rw [hW1]
  show (w.alloc C).cell? _ = _
  rw [hC, World.cell?_alloc_at _ _ _ _ rfl]; exact hv
 have hr1 : Room W1 w.heap.size 8 := by
  intro j hj
  rw [hW1]
  show ((w.alloc C).cell? _).isSome = true ∧ (w.alloc C).frozen? _ = false
  rw [hC, World.cell?_alloc_at _ _ _ _ rfl, World.frozen?_alloc_at _ _ _ _ rfl]
  have : j = 0 ∨ j = 1 ∨ j = 2 ∨ j = 3 ∨ j = 4 ∨ j = 5 ∨ j = 6 ∨ j = 7 := by omega
  rcases this with rfl | rfl | rfl | rfl | rfl | rfl | rfl | rfl <;> exact ⟨rfl, rfl⟩
 have x6 := x 6 _ rfl
 have x6d : W1.drew.cell? ⟨w.heap.size, 6, none⟩ = some (.slice none 0 0) := x6
 have y6 := below_at hb1 h6 hrl
 have y6d : W1.drew.cell? ⟨rb, 6, none⟩ = some (.slice ra (regL ents s).length rc) := y6
 have y7 := below_at hb1 h7 hrl
 have Hy7 := hide h7
 have Hx := hide x
 have Hr1 := hide hr1
 have HB1 := hide hb1
 have HSr : Hid (SrcAt W1.drew (.slice ra (regL ents s).length rc) (regL ents s).length (ints (regL ents s))) := ((Hr.out.only (Only.new (S := fun _ => False) hb1) (by simp)).only (Only.new (S := fun _ => False) (Below.refl _ _).drew) (by simp)).src
 have hrgl : (regL ents s).length = (ents * 4).toNat := regL_length ents s
 have hrg32 : (regL ents s).length ≤ 32 := by omega
 have hrg0 : 0 < (regL ents s).length := by omega
 have Hrgl := hide hrgl
 obtain ⟨rl, hrl'⟩ : ∃ rl, rl = regL ents s := ⟨_, rfl⟩
 have Hrl : Hid (regL ents s = rl) := hrl'.symm
 rw [← hrl'] at HSr hrg32 hrg0 y6 y6d Hrgl
 clear hrl'
 clear x hr1 hb1 hW1 hC h0 h1 h2 h3 h4 h5 h6 h7 hrgl
 go_region_law (first | (refine step_append_src rfl (.tmp 30) (.tmp 34) 24 rfl (w.heap.size + 1) 3 (.int .i64 0) 1 8 Tryz.underlying24 Tryz.info3 rfl (by omega) (.slice none 0 0) 0 [] rfl (World.ownsRow_nil _ _ _ _) _ rl.length (ints rl) rfl HSr.out (by simp [ints]) (ints_one _) (by omega) (by omega) (by show _ ≤ W1.heap.size; omega) ?_; intro v2 w2 hown2 hgr2 hwh2; (have ho2 := only_of_grown hgr2.out); (have z6 := ho2.at x6d (by simp [Value.ownBlock])); (have f6 := ((Hr1.out.only (Only.new (S := fun _ => False) (Below.refl _ _).drew) (by simp)).only ho2 (by simp [Value.ownBlock]) 6 (by omega)).2); obtain ⟨sa2, sc2, rfl⟩ := owns_form1 hown2.out))
 all_goals
  obtain ⟨g2, cap2, hv2, hg2, hgl2, hrow2⟩ : ∃ g cap, Value.slice sa2 (0 + rl.length) sc2 = .slice (some ⟨g, 0, none⟩) rl.length cap ∧ w.heap.size + 1 ≤ g ∧ g < w2.heap.size ∧ RowAt w2 g 0 (ints rl) := by
   rcases owns_row hown2.out with ⟨e, h0, _⟩ | ⟨g, cap, e, q1, q2, q3⟩
   ·omega
   ·exact ⟨g, cap, by rw [e, Nat.zero_add], q1, q2, by simpa using q3⟩
  have hro2 : Room w2 g2 rl.length := by
   obtain ⟨_, ⟨e, _⟩ | ⟨g, cap, cur, e, _, hh, hn, _, hcs, _⟩⟩ := hown2.out
   ·rw [e] at hv2; simp at hv2
   ·rw [e] at hv2
    simp only [Value.slice.injEq, Option.some.injEq, Addr.mk.injEq] at hv2
    obtain ⟨⟨rfl, _⟩, _, _⟩ := hv2
    intro j hj
    have : j < cur.size := by rw [hcs]; omega
    simp [World.cell?, World.frozen?, hh, this]
  have hcap2 : rl.length ≤ cap2 ∧ cap2 ≤ 9223372036854775807 := by
   obtain ⟨_, ⟨e, _⟩ | ⟨g, cap, cur, e, _, hh, hn, hm, hcs, _⟩⟩ := hown2.out
   ·rw [e] at hv2; simp at hv2
   ·rw [e] at hv2
    simp only [Value.slice.injEq] at hv2
    unfold maxLen at hm
    omega
  simp only [Value.slice.injEq] at hv2
  obtain ⟨rfl, _, rfl⟩ := hv2
  have hz2 := ho2.size
  have hzd : W1.drew.heap.size = W1.heap.size := rfl
  obtain ⟨W2, hW2⟩ : ∃ W2, W2 = w2.setCell ⟨w.heap.size, 6, none⟩ (.slice (some ⟨g2, 0, none⟩) rl.length sc2) := ⟨_, rfl⟩
  have hO2 : Only (fun b => b = w.heap.size) W1 W2 := by
   rw [hW2]
   exact Only.setCell (S := fun b => b = w.heap.size) ((Only.new (Below.refl _ _).drew).trans (ho2.mono (fun k _ hc => by simp [Value.ownBlock] at hc))) (p := ⟨w.heap.size, 6, none⟩) rfl _
  have hB2 : Below w.heap.size w W2 := HB1.out.trans (hO2.below (by omega) (fun k hk hc => by omega))
  have hzW2 : W2.heap.size = w2.heap.size := by rw [hW2]; simp [World.setCell]
  have hr2 : Room W2 w.heap.size 8 := by
   rw [hW2]
   exact ((Hr1.out.only (Only.new (S := fun _ => False) (Below.refl _ _).drew) (by simp)).only ho2 (by simp [Value.ownBlock])).setCell _ _
  have hne6 : ∀ j v, j ≠ 6 → W1.cell? ⟨w.heap.size, j, none⟩ = some v → W2.cell? ⟨w.heap.size, j, none⟩ = some v := by
   intro j v hj hv
   rw [hW2, World.cell?_setCell_other _ _ _ _ (by simp <;> omega)]
   exact ho2.at (w := W1.drew) hv (by simp [Value.ownBlock])
  have t6 : W2.cell? ⟨w.heap.size, 6, none⟩ = some (.slice (some ⟨g2, 0, none⟩) rl.length sc2) := by rw [hW2]; exact World.cell?_setCell_same' _ _ _ (by rw [z6]; rfl)
  have Hrw2 : Hid (RowAt W2 g2 0 (ints rl)) := by rw [hW2]; exact hrow2.setCell _ _ (by intro j _ hc; simp at hc <;> omega)
  have Hro2 : Hid (Room W2 g2 rl.length) := by rw [hW2]; exact hro2.setCell _ _
  have x7 := hne6 7 _ (by omega) (Hx.out 7 _ rfl)
  have x7d : W2.drew.cell? ⟨w.heap.size, 7, none⟩ = some (.slice none 0 0) := x7
  have z7 := below_at hB2 Hy7.out hrl
  have z7d : W2.drew.cell? ⟨rb, 7, none⟩ = some (.slice qa s.q.length qc) := z7
  have HSq : Hid (SrcAt W2.drew (.slice qa s.q.length qc) s.q.length (flat (s.q.map evIns))) := ((Hq.out.only (Only.new (S := fun _ => False) hB2) (by simp)).only (Only.new (S := fun _ => False) (Below.refl _ _).drew) (by simp)).src
  have Hne6 := hide hne6
  have HB2 := hide hB2
  have Hr2 := hide hr2
  go_wp2_with fail
  rw [← hW2]
  have Ht6 := hide t6
  clear hW2 hO2 hne6 hB2 hr2 hown2 hgr2 hwh2 ho2 z6 f6 hrow2 hro2 x6 x6d y6 y6d y7 t6
  go_region_law (first | (refine step_append_src rfl (.tmp 42) (.tmp 46) 115 rfl W2.heap.size 143 (.agg #[.int .i64 0, .int .i64 0, .int .i64 0, .int .i64 0]) 4 32 Tryz.underlying115 Tryz.info129 rfl (by omega) (.slice none 0 0) 0 [] rfl (World.ownsRow_nil _ _ _ _) _ s.q.length (flat (s.q.map evIns)) rfl HSq.out (by simp [flat_length]) (flat_one _) (by omega) (by omega) (by exact Nat.le_refl _) ?_; intro v3 w3 hown3 hgr3 hwh3; (have ho3 := only_of_grown hgr3.out); (have u7 := ho3.at x7d (by simp [Value.ownBlock])); (have f7 := ((Hr2.out.only (Only.new (S := fun _ => False) (Below.refl _ _).drew) (by simp)).only ho3 (by simp [Value.ownBlock]) 7 (by omega)).2); obtain ⟨sa3, sc3, rfl⟩ := owns_form1 hown3.out))
  all_goals
   have hz3 := ho3.size
   have hzd2 : W2.drew.heap.size = W2.heap.size := rfl
   have Hown3 := hide hown3.out
   obtain ⟨W3, hW3⟩ : ∃ W3, W3 = w3.setCell ⟨w.heap.size, 7, none⟩ (.slice sa3 (0 + s.q.length) sc3) := ⟨_, rfl⟩
   have hW3' := hW3
   rw [Nat.zero_add] at hW3'
   have hO3 : Only (fun b => b = w.heap.size) W2 W3 := by
    rw [hW3]
    exact Only.setCell (S := fun b => b = w.heap.size) ((Only.new (Below.refl _ _).drew).trans (ho3.mono (fun k _ hc => by simp [Value.ownBlock] at hc))) (p := ⟨w.heap.size, 7, none⟩) rfl _
   have hzW3 : W3.heap.size = w3.heap.size := by rw [hW3]; simp [World.setCell]
   have hB3 : Below w.heap.size w W3 := HB2.out.trans (hO3.below (by omega) (fun k hk hc => by omega))
   have v7 : W3.cell? ⟨w.heap.size, 7, none⟩ = some (.slice sa3 (0 + s.q.length) sc3) := by rw [hW3]; exact World.cell?_setCell_same' _ _ _ (by rw [u7]; rfl)
   have hne7 : ∀ j v, j ≠ 7 → W2.cell? ⟨w.heap.size, j, none⟩ = some v → W3.cell? ⟨w.heap.size, j, none⟩ = some v := by
    intro j v hj hv
    rw [hW3, World.cell?_setCell_other _ _ _ _ (by simp <;> omega)]
    exact ho3.at (w := W2.drew) hv (by simp [Value.ownBlock])
   have hro3 : Room W3 w.heap.size 8 := by
    rw [hW3]
    exact ((Hr2.out.only (Only.new (S := fun _ => False) (Below.refl _ _).drew) (by simp)).only ho3 (by simp [Value.ownBlock])).setCell _ _
   have hevs : EvsIn (fun b => W2.heap.size ≤ b ∧ b < W3.heap.size) W3 (.slice sa3 (0 + s.q.length) sc3) s.q := by
    obtain ⟨hx, ⟨e1, e2⟩ | ⟨g, cap, cur, e, hg, hh, hn, hm, hcs, ht⟩⟩ := Hown3.out
    ·have hq0 : s.q = [] := List.eq_nil_of_length_eq_zero (by omega)
     rw [e1]
     exact .inl ⟨rfl, hq0⟩
    ·rw [e]
     have hgl := (Array.getElem?_eq_some_iff.1 hh).1
     rw [Nat.zero_add] at hn
     refine .inr ⟨g, 0, cap, by rw [Nat.zero_add], hn, by unfold maxLen at hm; omega, ⟨hg, by omega⟩, ?_⟩
     have hrow : RowAt W3 g 0 (flat (s.q.map evIns)) := by
      rcases owns_row Hown3.out with ⟨e', _, _⟩ | ⟨g', cap', e', _, _, q3⟩
      ·rw [e] at e'; simp at e'
      ·rw [e] at e'
       simp only [Value.slice.injEq, Option.some.injEq, Addr.mk.injEq] at e'
       obtain ⟨⟨rfl, _⟩, _⟩ := e'
       rw [hW3]
       exact (by simpa using q3 : RowAt w3 g 0 (flat (s.q.map evIns))).setCell _ _ (by intro j _ hc; simp at hc <;> omega)
     exact hrow.code
   have hreg : ∀ j, j < (ents * 4).toNat → W3.cell? ⟨g2, j, none⟩ = some (.int .i64 (s.regs j)) := by
    intro j hj
    have := hO3.at (Hrw2.out j (.int .i64 (s.regs j)) (by rw [← Hrl.out]; simp [ints, regL, hj])) (by omega)
    rw [Nat.zero_add] at this
    exact this
   have HF : Hid (RefC (fun b => R b ∨ (w.heap.size ≤ b ∧ b < W3.heap.size ∧ b ≠ w.heap.size ∧ b ≠ g2)) W3 w.heap.size g2 ents ks draws s) := by
    have hR3 : ∀ {v l}, KindsIn R w v l → KindsIn (fun b => R b ∨ (w.heap.size ≤ b ∧ b < W3.heap.size ∧ b ≠ w.heap.size ∧ b ≠ g2)) W3 v l := fun h => (h.only (Only.new (S := fun _ => False) hB3) (by simp)).mono (fun b hb => .inl hb)
    have hR4 : ∀ {v l}, IntsIn R w v l → IntsIn (fun b => R b ∨ (w.heap.size ≤ b ∧ b < W3.heap.size ∧ b ≠ w.heap.size ∧ b ≠ g2)) W3 v l := fun h => (h.only (Only.new (S := fun _ => False) hB3) (by simp)).mono (fun b hb => .inl hb)
    refine ⟨hne7 0 _ (by omega) (Hne6.out 0 _ (by omega) (Hx.out 0 _ rfl)), ⟨_, hne7 1 _ (by omega) (Hne6.out 1 _ (by omega) (Hx.out 1 _ rfl)), hR3 Hk.out⟩, ⟨_, hne7 2 _ (by omega) (Hne6.out 2 _ (by omega) (Hx.out 2 _ rfl)), hR4 Hd.out⟩, hne7 3 _ (by omega) (Hne6.out 3 _ (by omega) (Hx.out 3 _ rfl)), hne7 4 _ (by omega) (Hne6.out 4 _ (by omega) (Hx.out 4 _ rfl)), hne7 5 _ (by omega) (Hne6.out 5 _ (by omega) (Hx.out 5 _ rfl)), ⟨sc2, ?_, ?_, hcap2.2⟩, hreg, ?_, ⟨_, v7, hevs.mono (fun b hb => .inr ⟨by omega, hb.2, by omega, by omega⟩)⟩, hro3, by omega, ?_⟩
    ·have := hne7 6 _ (by omega) Ht6.out
     rw [Hrgl.out] at this
     exact this
    ·have := hcap2.1; have := Hrgl.out; omega
    ·have := Hro2.out.only hO3 (by omega)
     rw [Hrgl.out] at this
     exact this
    ·rintro b (hb | hb)
     ·have := hR b hb
      exact ⟨by omega, by omega, by omega⟩
     ·exact ⟨hb.2.1, hb.2.2.1, hb.2.2.2⟩
   have hg3 : g2 < W3.heap.size := by omega
   have hw3 : w.heap.size < W3.heap.size := by omega
   have HB3 := hide hB3
   go_wp2_with fail
   go_ret
   rw [← hW3']
   exact ⟨w.heap.size, g2, rfl, HB3.out, Nat.le_refl _, hw3, by omega, hg3, HF.out⟩
end Go.Proofs.YtndlmgocldckfaaGreat
