import Derived.Test.YtpkkjgcpmnoalaaAsked
import Derived.Test.YtpkkjgcpmnoalaaMade
import Derived.Test.YtpkkjgcpmnoalaaMadeS
import Derived.Test.YtpkkjgcpmnoalaaSmall
import Derived.Deep.RegionHeld3
namespace Go.Proofs.Ytpkkjgcpmnoalaa
open Go.RowKit
set_option linter.unusedVariables false
set_option linter.unusedSimpArgs false

/-- A step, as data. -/
structure OpD where
  kind : Int
  a : Int
  b : Int
  c : Int
  d : Int
  ents : Int
  kv : Value
  l : Value
  rv : Value
  qv : Value
  sv : Value
  ks : List (List Ins)
  draws : List Int

def opCells (o : OpD) : List Value := [.int .i64 o.kind, .int .i64 o.a, .int .i64 o.b, .int .i64 o.c, .int .i64 o.d, .int .i64 o.ents, o.kv, o.l, o.rv, o.qv, o.sv]

structure OpOK (B : Nat) (w : World) (o : OpD) : Prop where
  kinds : KindsV B w o.kv o.ks
  draws : IntsX B w o.l o.draws
  alo : -9223372036854775808 ≤ o.a
  ahi : o.a ≤ 9223372036854775807
  rform : ∃ a n c, o.rv = .slice a n c
  qform : ∃ a n c, o.qv = .slice a n c
  sform : ∃ s, o.sv = .string s

theorem OpOK.below {B : Nat} {w w' : World} {o : OpD} (h : OpOK B w o) (hb : Below B w w') : OpOK B w' o :=
  ⟨h.kinds.below hb, h.draws.below hb, h.alo, h.ahi, h.rform, h.qform, h.sform⟩

theorem made_any {base : Nat} (wb : Nat) (lv : Value) (ps : List Pair) (o : OpD) (w : World) (h : Inv base w wb lv ps) (ho : OpOK base w o) (hk : o.kind = 1 ∨ o.kind = 2) (hlen : (ps.length + 1) * 16 ≤ 140737488355328) (hb0 : 0 < base) :
    Calls Try.prog 11 #[.pointer (some ⟨wb, 0, none⟩), .agg #[.int .i64 o.kind, .int .i64 o.a, .int .i64 o.b, .int .i64 o.c, .int .i64 o.d, .int .i64 o.ents, o.kv, o.l, o.rv, o.qv, o.sv]] w
      fun e w' => e = .returned (.bool true) ∧ Below base w w' ∧ ∃ lv' ps', ps'.length ≤ ps.length + 1 ∧ Inv base w' wb lv' ps' := by
  obtain ⟨kind, a, b, c, d, ents, kv, l, rv, qv, sv, ks, draws⟩ := o
  obtain ⟨⟨hkl, hkk⟩, hd, _, _, _, _, _⟩ := ho
  simp only at hkl hkk hd hk ⊢
  rcases hk with rfl | rfl
  · rcases hkk with ⟨rfl, rfl⟩ | ⟨kb, koff, kcap, rfl, hkb, hK⟩ | ⟨ka, kcap, rfl, rfl⟩
    · exact made_check_nil wb lv ps a b c d ents l rv qv sv w h
    · exact made_check_some wb lv ps a b c d ents ⟨kb, koff, none⟩ kb koff kcap ks l rv qv sv w h (fun _ => rfl) hkl hkb hK
    · exact made_check_some wb lv ps a b c d ents ka 0 0 kcap [] l rv qv sv w h (fun h => by simp at h) hkl hb0 (fun i l hl => by simp at hl)
  · have key : ∀ (ka : Addr) (kb koff kcap : Nat), (0 < ks.length → ka = ⟨kb, koff, none⟩) → kb < base → KindsAt base w kb koff ks → kv = .slice (some ka) ks.length kcap →
        Calls Try.prog 11 #[.pointer (some ⟨wb, 0, none⟩), .agg #[.int .i64 2, .int .i64 a, .int .i64 b, .int .i64 c, .int .i64 d, .int .i64 ents, kv, l, rv, qv, sv]] w
          fun e w' => e = .returned (.bool true) ∧ Below base w w' ∧ ∃ lv' ps', ps'.length ≤ ps.length + 1 ∧ Inv base w' wb lv' ps' := by
      rintro ka kb koff kcap hka hkb hK rfl
      rcases hf : kindF ents ks with _ | p
      · rcases hD : drawsF draws with _ | _
        · exact made_new_draws wb lv ps a b c d ents ka kb koff kcap ks l draws rv qv sv w h hka hkl hkb hK hd hf hD
        · exact made_new_ok wb lv ps a b c d ents ka kb koff kcap ks l draws rv qv sv w h hka hkl hkb hK hd hf hD hlen
      · exact made_new_model wb lv ps a b c d ents ka kb koff kcap ks l draws rv qv sv w h hka hkl hkb hK hd p hf
    rcases hkk with ⟨rfl, rfl⟩ | ⟨kb, koff, kcap, rfl, hkb, hK⟩ | ⟨ka, kcap, rfl, rfl⟩
    · exact made_new_nil wb lv ps a b c d ents l draws rv qv sv w h hd
    · exact key ⟨kb, koff, none⟩ kb koff kcap (fun _ => rfl) hkb hK rfl
    · exact key ka 0 0 kcap (fun h => by simp at h) hb0 (fun i l hl => by simp at hl) rfl

set_option maxRecDepth 100000 in
set_option maxHeartbeats 2000000 in
theorem step_made {base : Nat} (wb : Nat) (lv : Value) (ps : List Pair) (o : OpD) (w : World) (h : Inv base w wb lv ps) (ho : OpOK base w o) (hk : o.kind = 1 ∨ o.kind = 2) (hlen : (ps.length + 1) * 16 ≤ 140737488355328) (hb0 : 0 < base) :
    Calls Try.prog 7 #[.pointer (some ⟨wb, 0, none⟩), .agg #[.int .i64 o.kind, .int .i64 o.a, .int .i64 o.b, .int .i64 o.c, .int .i64 o.d, .int .i64 o.ents, o.kv, o.l, o.rv, o.qv, o.sv]] w
      fun e w' => e = .returned (.bool true) ∧ Below base w w' ∧ ∃ lv' ps', ps'.length ≤ ps.length + 1 ∧ Inv base w' wb lv' ps' := by
  have hbl : base ≤ w.heap.size := Nat.le_trans h.blo (Nat.le_of_lt h.wlt)
  obtain ⟨W, hW⟩ : ∃ W, W = w.alloc (.cells #[.int .i64 o.kind, .int .i64 o.a, .int .i64 o.b, .int .i64 o.c, .int .i64 o.d, .int .i64 o.ents, o.kv, o.l, o.rv, o.qv, o.sv] 41) := ⟨_, rfl⟩
  have hb : Below w.heap.size w W := by rw [hW]; exact (Below.refl _ _).alloc (Nat.le_refl _) _
  have HM := hide (made_any wb lv ps o W (h.below hb) (ho.below (hb.mono hbl)) hk hlen hb0)
  have hk1 : (o.kind == 1) = true ∨ ((o.kind == 1) = false ∧ (o.kind == 2) = true) := by rcases hk with e | e <;> simp [e]
  clear hk
  rcases hk1 with hk1 | ⟨hk1, hk2⟩
  all_goals
    go_enter Try.func7, Try.ntmps7
    go_wp2_with fail
    rw [← hW]
    refine HM.out.mono ?_
    rintro e w1 ⟨rfl, hB, hI⟩
    have HI := hide hI
    clear hI
    go_wp2
    go_ret
    exact ⟨rfl, (hb.mono hbl).trans hB, HI.out⟩

set_option maxRecDepth 100000 in
set_option maxHeartbeats 2000000 in
theorem step_none {base : Nat} (wb : Nat) (lv : Value) (o : OpD) (w : World) (h : Inv base w wb lv []) (hk : o.kind = 3 ∨ o.kind = 5 ∨ o.kind = 6) :
    Calls Try.prog 7 #[.pointer (some ⟨wb, 0, none⟩), .agg #[.int .i64 o.kind, .int .i64 o.a, .int .i64 o.b, .int .i64 o.c, .int .i64 o.d, .int .i64 o.ents, o.kv, o.l, o.rv, o.qv, o.sv]] w
      fun e w' => e = .returned (.bool true) ∧ Below base w w' ∧ ∃ lv' ps', ps'.length ≤ ([] : List Pair).length + 1 ∧ Inv base w' wb lv' ps' := by
  have hbl : base ≤ w.heap.size := Nat.le_trans h.blo (Nat.le_of_lt h.wlt)
  have HI := hide h
  have hcell := h.cell
  obtain ⟨la, lc, rfl⟩ := owns_form h.owns
  have hwl := h.wlt
  have k1 : (o.kind == 1) = false := by rcases hk with e | e | e <;> simp [e]
  have k2 : (o.kind == 2) = false := by rcases hk with e | e | e <;> simp [e]
  have k8 : (o.kind == 8) = false := by rcases hk with e | e | e <;> simp [e]
  have k10 : decide (10 ≤ o.kind) = false := by rcases hk with e | e | e <;> simp [e]
  have k3 : decide (o.kind < 3) = false := by rcases hk with e | e | e <;> simp [e]
  have k9 : decide (9 < o.kind) = false := by rcases hk with e | e | e <;> simp [e]
  clear hk h
  go_enter Try.func7, Try.ntmps7
  go_wp2
  go_ret
  have hb : Below w.heap.size w _ := (Below.refl w.heap.size w).alloc (Nat.le_refl _) (.cells #[.int .i64 o.kind, .int .i64 o.a, .int .i64 o.b, .int .i64 o.c, .int .i64 o.d, .int .i64 o.ents, o.kv, o.l, o.rv, o.qv, o.sv] 41)
  exact ⟨rfl, hb.mono hbl, _, [], by simp, HI.out.below hb⟩
end Go.Proofs.Ytpkkjgcpmnoalaa
