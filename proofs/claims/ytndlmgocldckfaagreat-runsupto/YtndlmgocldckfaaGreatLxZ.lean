import Derived.Test.YtndlmgocldckfaaGreatRfZ
import Derived.Test.YtndlmgocldckfaaGreatLwZ
import Derived.Deep.RegionHeld3
namespace Go.Proofs.YtndlmgocldckfaaGreat
open Go.RowKit
set_option linter.unusedVariables false
set_option linter.unusedSimpArgs false

set_option maxHeartbeats 1000000 in
theorem looks_empty (wb : Nat) (w : World) (h1 : w.cell? ⟨wb, 1, none⟩ = some (.slice none 0 0)) (h2 : w.cell? ⟨wb, 2, none⟩ = some (.slice none 0 0)) (h3 : w.cell? ⟨wb, 3, none⟩ = some (.slice none 0 0)) :
    Calls Tryz.prog 12 #[.pointer (some ⟨wb, 1, none⟩)] w fun e w' => e = .returned (.bool true) ∧ w' = w := by
  go_enter Tryz.func12, Tryz.ntmps12
  go_wp2
  go_loop [3] (fun i => i = .int .i64 0) (fun _ => 0)
  case atStart => rfl
  case round =>
    obtain rfl := hrel
    go_wp2
    go_loop [6] (fun i => i = .int .i64 0) (fun _ => 0)
    case atStart => rfl
    case round =>
      obtain rfl := hrel
      go_wp2
      go_loop [8] (fun i => i = .int .i64 0) (fun _ => 0)
      case atStart => rfl
      case round =>
        obtain rfl := hrel
        go_wp2
        go_ret
        exact ⟨rfl, rfl⟩

set_option maxHeartbeats 1000000 in
theorem apart_empty (wb : Nat) (w : World) (h1 : w.cell? ⟨wb, 1, none⟩ = some (.slice none 0 0)) :
    Calls Tryz.prog 13 #[.pointer (some ⟨wb, 1, none⟩)] w fun e w' => e = .returned (.bool true) ∧ w' = w := by
  go_enter Tryz.func13, Tryz.ntmps13
  go_wp2
  go_loop [3] (fun i => i = .int .i64 0) (fun _ => 0)
  case atStart => rfl
  case round =>
    obtain rfl := hrel
    go_wp2
    go_ret
    exact ⟨rfl, rfl⟩

/-- Which of n things a raw number speaks of. -/
def pickF (c : Int) (n : Nat) : Nat := ((if c < 0 then -(c + 1) else c) % n).toNat
theorem pickF_lt (c : Int) (n : Nat) (h : 0 < n) : pickF c n < n := by
  unfold pickF
  have h1 := Int.emod_nonneg (if c < 0 then -(c + 1) else c) (show (n : Int) ≠ 0 by omega)
  have h2 := Int.emod_lt_of_pos (if c < 0 then -(c + 1) else c) (show 0 < (n : Int) by omega)
  omega

set_option maxHeartbeats 1000000 in
theorem pick_any (c : Int) (n : Nat) (w : World) (hn : 0 < n) (hn' : n ≤ 9223372036854775807) (hc1 : -9223372036854775808 ≤ c) (hc2 : c ≤ 9223372036854775807) :
    Calls Tryz.prog 18 #[.int .i64 c, .int .i64 n] w fun e w' => e = .returned (.int .i64 (pickF c n : Nat)) ∧ w' = w := by
  have hz : ((n : Int) == 0) = false := by simp; omega
  by_cases h : c < 0
  · have HP : Hid ((pickF c n : Nat) = (-(c + 1)) % (n : Int)) := by
      show _ = _
      unfold pickF
      rw [if_pos h]
      exact Int.toNat_of_nonneg (Int.emod_nonneg _ (by omega))
    go_enter Tryz.func18, Tryz.ntmps18
    go_wp2
    go_ret
    have ht : (-(c + 1)).tmod (n : Int) = -(c + 1) % (n : Int) := Int.tmod_eq_emod_of_nonneg (by omega)
    rw [Int.neg_tmod] at ht
    exact ⟨by rw [HP.out, ← ht]; simp, rfl⟩
  · have HP : Hid ((pickF c n : Nat) = c % (n : Int)) := by
      show _ = _
      unfold pickF
      rw [if_neg h]
      exact Int.toNat_of_nonneg (Int.emod_nonneg _ (by omega))
    go_enter Tryz.func18, Tryz.ntmps18
    go_wp2
    go_ret
    exact ⟨by rw [HP.out]; simp, rfl⟩

def amongF (l : List Int) (k : Int) : Bool := l.contains k

set_option maxHeartbeats 1000000 in
theorem among_any (b off cap : Nat) (l : List Int) (k : Int) (w : World) (hl : l.length ≤ 1000) (hc : RowAt w b off (ints l)) :
    Calls Tryz.prog 10 #[.slice (some ⟨b, off, none⟩) l.length cap, .int .i64 k] w fun e w' => e = .returned (.bool (amongF l k)) ∧ w' = w := by
  go_enter Tryz.func10, Tryz.ntmps10
  go_wp2
  go_loop [5] (fun i => ∃ j : Nat, j ≤ l.length ∧ i = .int .i64 j ∧ Hid (amongF (l.drop j) k = amongF l k)) (fun i => l.length - (intOf i).toNat)
  case atStart => exact ⟨0, by omega, rfl, rfl⟩
  case round =>
    obtain ⟨j, hj, rfl, hI⟩ := hrel
    by_cases hlt : j < l.length
    · have hx : w.cell? ⟨b, off + j, none⟩ = some (.int .i64 l[j]) := hc j _ (by simp [ints, hlt])
      have hd : amongF (l.drop j) k = (k == l[j] || amongF (l.drop (j + 1)) k) := by
        rw [List.drop_eq_getElem_cons hlt, amongF, List.contains_cons]; rfl
      by_cases he : l[j] = k
      · have he' : (l[j] == k) = true := by simpa using he
        have HT : Hid (amongF l k = true) := by show _ = _; rw [← hI.out, hd, he]; simp
        clear hd he
        go_wp2
        go_ret
        exact ⟨by rw [HT.out]; simp, rfl⟩
      · have he' : (l[j] == k) = false := by simpa using he
        have HN : Hid (amongF (l.drop (j + 1)) k = amongF l k) := by
          show _ = _; rw [← hI.out, hd]
          have : (k == l[j]) = false := by simp; exact fun e => he e.symm
          rw [this]; simp
        clear hd he
        go_wp2
        go_round
        case rel => exact ⟨j + 1, by omega, by go_num, HN⟩
        case measure => simp [intOf]; omega
    · have HN : Hid (amongF l k = false) := by
        show _ = _; rw [← hI.out, List.drop_of_length_le (by omega)]; rfl
      go_wp2
      go_ret
      exact ⟨by rw [HN.out]; simp, rfl⟩
end Go.Proofs.YtndlmgocldckfaaGreat

namespace Go.Proofs.YtndlmgocldckfaaGreat
open Go.RowKit
set_option linter.unusedVariables false
set_option linter.unusedSimpArgs false

/-- A step, as data. -/
structure OpD where
  kind : Int
  a : Int
  b : Int
  c : Int
  d : Int
  ents : Int
  kv : Value
  l : Value
  rv : Value
  qv : Value
  sv : Value
  ks : List (List Ins)
  draws : List Int

def opCells (o : OpD) : List Value := [.int .i64 o.kind, .int .i64 o.a, .int .i64 o.b, .int .i64 o.c, .int .i64 o.d, .int .i64 o.ents, o.kv, o.l, o.rv, o.qv, o.sv]

structure OpOK (B : Nat) (w : World) (o : OpD) : Prop where
  kinds : KindsV B w o.kv o.ks
  draws : IntsX B w o.l o.draws
  alo : -9223372036854775808 ≤ o.a
  ahi : o.a ≤ 9223372036854775807
  rform : ∃ a n c, o.rv = .slice a n c
  qform : ∃ a n c, o.qv = .slice a n c
  sform : ∃ s, o.sv = .string s

theorem OpOK.below {B : Nat} {w w' : World} {o : OpD} (h : OpOK B w o) (hb : Below B w w') : OpOK B w' o :=
  ⟨h.kinds.below hb, h.draws.below hb, h.alo, h.ahi, h.rform, h.qform, h.sform⟩

theorem made_any {base : Nat} (wb : Nat) (lv : Value) (ps : List Pair) (bk : BookD) (o : OpD) (w : World) (h : Inv base w wb lv ps bk) (ho : OpOK base w o) (hk : o.kind = 1 ∨ o.kind = 2) (hlen : (ps.length + 1) * 16 ≤ 140737488355328) (hb0 : 0 < base) :
    Calls Tryz.prog 15 #[.pointer (some ⟨wb, 0, none⟩), .agg #[.int .i64 o.kind, .int .i64 o.a, .int .i64 o.b, .int .i64 o.c, .int .i64 o.d, .int .i64 o.ents, o.kv, o.l, o.rv, o.qv, o.sv]] w
      fun e w' => e = .returned (.bool true) ∧ Below base w w' ∧ ∃ lv' ps', ps'.length ≤ ps.length + 1 ∧ Inv base w' wb lv' ps' bk := by
  obtain ⟨kind, a, b, c, d, ents, kv, l, rv, qv, sv, ks, draws⟩ := o
  obtain ⟨⟨hkl, hkk⟩, hd, _, _, _, _, _⟩ := ho
  simp only at hkl hkk hd hk ⊢
  rcases hk with rfl | rfl
  · rcases hkk with ⟨rfl, rfl⟩ | ⟨kb, koff, kcap, rfl, hkb, hK⟩ | ⟨ka, kcap, rfl, rfl⟩
    · exact made_check_nil wb lv ps bk a b c d ents l rv qv sv w h
    · exact made_check_some wb lv ps bk a b c d ents ⟨kb, koff, none⟩ kb koff kcap ks l rv qv sv w h (fun _ => rfl) hkl hkb hK
    · exact made_check_some wb lv ps bk a b c d ents ka 0 0 kcap [] l rv qv sv w h (fun h => by simp at h) hkl hb0 (fun i l hl => by simp at hl)
  · have key : ∀ (ka : Addr) (kb koff kcap : Nat), (0 < ks.length → ka = ⟨kb, koff, none⟩) → kb < base → KindsAt base w kb koff ks → kv = .slice (some ka) ks.length kcap →
        Calls Tryz.prog 15 #[.pointer (some ⟨wb, 0, none⟩), .agg #[.int .i64 2, .int .i64 a, .int .i64 b, .int .i64 c, .int .i64 d, .int .i64 ents, kv, l, rv, qv, sv]] w
          fun e w' => e = .returned (.bool true) ∧ Below base w w' ∧ ∃ lv' ps', ps'.length ≤ ps.length + 1 ∧ Inv base w' wb lv' ps' bk := by
      rintro ka kb koff kcap hka hkb hK rfl
      rcases hf : kindF ents ks with _ | p
      · rcases hD : drawsF draws with _ | _
        · exact made_new_draws wb lv ps bk a b c d ents ka kb koff kcap ks l draws rv qv sv w h hka hkl hkb hK hd hf hD
        · exact made_new_ok wb lv ps bk a b c d ents ka kb koff kcap ks l draws rv qv sv w h hka hkl hkb hK hd hf hD hlen
      · exact made_new_model wb lv ps bk a b c d ents ka kb koff kcap ks l draws rv qv sv w h hka hkl hkb hK hd p hf
    rcases hkk with ⟨rfl, rfl⟩ | ⟨kb, koff, kcap, rfl, hkb, hK⟩ | ⟨ka, kcap, rfl, rfl⟩
    · exact made_new_nil wb lv ps bk a b c d ents l draws rv qv sv w h hd
    · exact key ⟨kb, koff, none⟩ kb koff kcap (fun _ => rfl) hkb hK rfl
    · exact key ka 0 0 kcap (fun h => by simp at h) hb0 (fun i l hl => by simp at hl) rfl

set_option maxRecDepth 100000 in
set_option maxHeartbeats 2000000 in
theorem lw_made {base : Nat} (wb : Nat) (lv : Value) (ps : List Pair) (bk : BookD) (o : OpD) (w : World) (h : Inv base w wb lv ps bk) (ho : OpOK base w o) (hk : o.kind = 1 ∨ o.kind = 2) (hlen : (ps.length + 1) * 16 ≤ 140737488355328) (hb0 : 0 < base) :
    Calls Tryz.prog 11 #[.pointer (some ⟨wb, 0, none⟩), .agg #[.int .i64 o.kind, .int .i64 o.a, .int .i64 o.b, .int .i64 o.c, .int .i64 o.d, .int .i64 o.ents, o.kv, o.l, o.rv, o.qv, o.sv]] w
      fun e w' => e = .returned (.bool true) ∧ Below base w w' ∧ ∃ lv' ps', ps'.length ≤ ps.length + 1 ∧ Inv base w' wb lv' ps' bk := by
  have hbl : base ≤ w.heap.size := Nat.le_trans h.blo (Nat.le_of_lt h.wlt)
  obtain ⟨W, hW⟩ : ∃ W, W = w.alloc (.cells #[.int .i64 o.kind, .int .i64 o.a, .int .i64 o.b, .int .i64 o.c, .int .i64 o.d, .int .i64 o.ents, o.kv, o.l, o.rv, o.qv, o.sv] 41) := ⟨_, rfl⟩
  have hb : Below w.heap.size w W := by rw [hW]; exact (Below.refl _ _).alloc (Nat.le_refl _) _
  have HM := hide (made_any wb lv ps bk o W (h.below hb) (ho.below (hb.mono hbl)) hk hlen hb0)
  have hk1 : (o.kind == 1) = true ∨ ((o.kind == 1) = false ∧ (o.kind == 2) = true) := by rcases hk with e | e <;> simp [e]
  clear hk
  rcases hk1 with hk1 | ⟨hk1, hk2⟩
  all_goals
    go_enter Tryz.func11, Tryz.ntmps11
    go_wp2_with fail
    rw [← hW]
    refine HM.out.mono ?_
    rintro e w1 ⟨rfl, hB, hI⟩
    have HI := hide hI
    clear hI
    go_wp2
    go_ret
    exact ⟨rfl, (hb.mono hbl).trans hB, HI.out⟩

set_option maxRecDepth 100000 in
set_option maxHeartbeats 2000000 in
theorem lw_none {base : Nat} (wb : Nat) (lv : Value) (bk : BookD) (o : OpD) (w : World) (h : Inv base w wb lv [] bk) (hk : 3 ≤ o.kind ∧ o.kind ≤ 9 ∧ o.kind ≠ 8) :
    Calls Tryz.prog 11 #[.pointer (some ⟨wb, 0, none⟩), .agg #[.int .i64 o.kind, .int .i64 o.a, .int .i64 o.b, .int .i64 o.c, .int .i64 o.d, .int .i64 o.ents, o.kv, o.l, o.rv, o.qv, o.sv]] w
      fun e w' => e = .returned (.bool true) ∧ Below base w w' ∧ ∃ lv' ps', ps'.length ≤ ([] : List Pair).length + 1 ∧ Inv base w' wb lv' ps' bk := by
  have hbl : base ≤ w.heap.size := Nat.le_trans h.blo (Nat.le_of_lt h.wlt)
  have HI := hide h
  have hcell := h.cell
  obtain ⟨la, lc, rfl⟩ := owns_form h.owns
  have hwl := h.wlt
  have k1 : (o.kind == 1) = false := by simp; omega
  have k2 : (o.kind == 2) = false := by simp; omega
  have k8 : (o.kind == 8) = false := by simp; omega
  have k10 : decide (10 ≤ o.kind) = false := by simp; omega
  have k3 : decide (o.kind < 3) = false := by simp; omega
  have k9 : decide (9 < o.kind) = false := by simp; omega
  clear hk h
  go_enter Tryz.func11, Tryz.ntmps11
  go_wp2
  go_ret
  have hb : Below w.heap.size w _ := (Below.refl w.heap.size w).alloc (Nat.le_refl _) (.cells #[.int .i64 o.kind, .int .i64 o.a, .int .i64 o.b, .int .i64 o.c, .int .i64 o.d, .int .i64 o.ents, o.kv, o.l, o.rv, o.qv, o.sv] 41)
  exact ⟨rfl, hb.mono hbl, _, [], by simp, HI.out.below hb⟩
end Go.Proofs.YtndlmgocldckfaaGreat

namespace Go.Proofs.YtndlmgocldckfaaGreat
open Go.RowKit
set_option linter.unusedVariables false
set_option linter.unusedSimpArgs false

def ownKs : List (List Ins) := [[⟨2, 0, 1, 0⟩, ⟨8, 0, 0, 0⟩, ⟨6, 0, 0, 2⟩], [⟨1, 1, 5, 0⟩, ⟨4, 2, 4, 0⟩, ⟨6, 0, 0, 2⟩, ⟨5, 3, 1, 0⟩, ⟨7, 3, 0, 0⟩, ⟨6, 0, 0, 1⟩]]

theorem rowAt_alloc (W : World) (cs : List Value) (T : TypeId) : RowAt (W.alloc (.cells cs.toArray T)) W.heap.size 0 cs := by
  intro j v hv
  rw [Nat.zero_add, World.cell?_alloc_at _ _ _ _ rfl]
  simpa using hv

theorem kinds_laid (W : World) (T1 T2 : TypeId) : KindsIn (fun b => W.heap.size ≤ b ∧ b < W.heap.size + 3) (((W.alloc (.cells (flat ownKs[0]).toArray T1)).alloc (.cells (flat ownKs[1]).toArray T1)).alloc (.cells #[.slice (some ⟨W.heap.size, 0, none⟩) 3 3, .slice (some ⟨W.heap.size + 1, 0, none⟩) 6 6] T2)) (.slice (some ⟨W.heap.size + 1 + 1, 0, none⟩) 2 2) ownKs := by
  obtain ⟨W1, hW1⟩ : ∃ W1, W1 = W.alloc (.cells (flat ownKs[0]).toArray T1) := ⟨_, rfl⟩
  obtain ⟨W2, hW2⟩ : ∃ W2, W2 = W1.alloc (.cells (flat ownKs[1]).toArray T1) := ⟨_, rfl⟩
  obtain ⟨W3, hW3⟩ : ∃ W3, W3 = W2.alloc (.cells #[.slice (some ⟨W.heap.size, 0, none⟩) 3 3, .slice (some ⟨W.heap.size + 1, 0, none⟩) 6 6] T2) := ⟨_, rfl⟩
  have s1 : W1.heap.size = W.heap.size + 1 := by rw [hW1]; simp
  have s2 : W2.heap.size = W.heap.size + 1 + 1 := by rw [hW2]; simp [s1]
  have b2 : Below W1.heap.size W1 W2 := by rw [hW2]; exact (Below.refl _ _).alloc (Nat.le_refl _) _
  have b3 : Below W2.heap.size W2 W3 := by rw [hW3]; exact (Below.refl _ _).alloc (Nat.le_refl _) _
  have r0 : CodeAt W3 W.heap.size 0 ownKs[0] := by
    have := rowAt_alloc W (flat ownKs[0]) T1
    rw [← hW1] at this
    exact (this.code.below b2 (by omega)).below b3 (by omega)
  have r1 : CodeAt W3 (W.heap.size + 1) 0 ownKs[1] := by
    have := rowAt_alloc W1 (flat ownKs[1]) T1
    rw [← hW2, s1] at this
    exact this.code.below b3 (by omega)
  have rk := rowAt_alloc W2 [.slice (some ⟨W.heap.size, 0, none⟩) 3 3, .slice (some ⟨W.heap.size + 1, 0, none⟩) 6 6] T2
  rw [s2] at rk
  rw [← hW1, ← hW2, ← hW3]
  refine ⟨by decide, .inr ⟨W.heap.size + 1 + 1, 0, 2, rfl, by omega, ?_⟩⟩
  intro i l hl
  have hi : i < 2 := by simpa [ownKs] using (List.getElem?_eq_some_iff.1 hl).1
  have : i = 0 ∨ i = 1 := by omega
  rcases this with rfl | rfl
  · have : l = ownKs[0] := by simpa [ownKs] using hl.symm
    subst this
    exact ⟨.slice (some ⟨W.heap.size, 0, none⟩) 3 3, by rw [hW3]; exact rk 0 _ rfl, by simp [ownKs], .inr ⟨W.heap.size, 0, 3, rfl, by omega, r0⟩⟩
  · have : l = ownKs[1] := by simpa [ownKs] using hl.symm
    subst this
    exact ⟨.slice (some ⟨W.heap.size + 1, 0, none⟩) 6 6, by rw [hW3]; exact rk 1 _ rfl, by simp [ownKs], .inr ⟨W.heap.size + 1, 0, 6, rfl, by omega, r1⟩⟩

set_option maxRecDepth 100000 in
set_option maxHeartbeats 1000000 in
theorem own_any (w : World) : Calls Tryz.prog 14 #[] w fun e w' => ∃ sa sc, e = .returned (.agg #[.int .i64 2, .slice sa 2 sc]) ∧ Below w.heap.size w w' ∧ KindsIn (fun b => w.heap.size ≤ b ∧ b < w'.heap.size) w' (.slice sa 2 sc) ownKs := by
  go_enter Tryz.func14, Tryz.ntmps14
  go_wp2
  obtain ⟨W, hW⟩ : ∃ W, W = w.alloc (.cells #[.int .i64 2, .slice (some ⟨w.heap.size + 1 + 1 + 1, 0, none⟩) 2 2] 38) := ⟨_, rfl⟩
  have hWs : W.heap.size = w.heap.size + 1 := by rw [hW]; simp
  have hk := kinds_laid W 59 60
  have e0 : (flat ownKs[0]).toArray = #[.int .i64 2, .int .i64 0, .int .i64 1, .int .i64 0, .int .i64 8, .int .i64 0, .int .i64 0, .int .i64 0, .int .i64 6, .int .i64 0, .int .i64 0, .int .i64 2] := rfl
  have e1 : (flat ownKs[1]).toArray = #[.int .i64 1, .int .i64 1, .int .i64 5, .int .i64 0, .int .i64 4, .int .i64 2, .int .i64 4, .int .i64 0, .int .i64 6, .int .i64 0, .int .i64 0, .int .i64 2, .int .i64 5, .int .i64 3, .int .i64 1, .int .i64 0, .int .i64 7, .int .i64 3, .int .i64 0, .int .i64 0, .int .i64 6, .int .i64 0, .int .i64 0, .int .i64 1] := rfl
  rw [e0, e1, hWs] at hk
  rw [← hW]
  refine bodyPost_ret (v := .agg #[.int .i64 2, .slice (some ⟨w.heap.size + 1 + 1 + 1, 0, none⟩) 2 2]) (by rw [hW]; simp [results, Tryz.results14, go_sem]) rfl ⟨_, _, rfl, ?_, hk.mono ?_⟩
  · have hb0 : Below w.heap.size w W := by rw [hW]; exact (Below.refl _ _).alloc (Nat.le_refl _) _
    exact ((hb0.alloc (by omega) _).alloc (by simp; omega) _).alloc (by simp; omega) _
  · intro b hb
    simp [hWs]
    omega

def mkOp (kind a b c d ents : Int) (kv l rv qv sv : Value) (ks : List (List Ins)) (draws : List Int) : OpD := ⟨kind, a, b, c, d, ents, kv, l, rv, qv, sv, ks, draws⟩
def noS : Value := .slice none 0 0
def noT : Value := .string ⟨#[]⟩
/-- What is asked ahead of any script. -/
def firstOps (k1 k2 dv r : Value) : List OpD :=
  [mkOp 1 0 0 0 0 2 k1 noS noS noS noT ownKs [], mkOp 2 0 0 0 0 2 k2 dv noS noS noT ownKs [7, 9], mkOp 3 0 10 1 0 0 noS noS noS noS noT [] [], mkOp 4 0 3 100 0 0 noS noS noS noS noT [] [], mkOp 5 0 0 0 0 0 noS noS noS noS noT [] [],
   mkOp 6 0 0 2 0 0 noS noS noS noS noT [] [], mkOp 7 0 0 0 0 0 noS noS noS noS noT [] [], mkOp 9 0 0 0 0 0 noS noS noS noS noT [] [], mkOp 10 0 0 0 0 0 noS noS r noS noT [] [], mkOp 11 0 0 0 0 0 noS noS noS noS (.string ⟨#[84, 77, 82, 1, 0]⟩) [] [],
   mkOp 12 0 0 0 0 0 noS noS r noS noT [] []]

def opsRow (os : List OpD) : List Value := os.flatMap opCells

theorem opsRow_one (os : List OpD) (h : ∀ o ∈ os, o.kv.oneCell' = true ∧ o.l.oneCell' = true ∧ o.rv.oneCell' = true ∧ o.qv.oneCell' = true ∧ o.sv.oneCell' = true) : ∀ u ∈ opsRow os, u.oneCell' = true := by
  intro u hu
  obtain ⟨o, ho, hu⟩ := List.mem_flatMap.1 hu
  obtain ⟨h1, h2, h3, h4, h5⟩ := h o ho
  simp only [opCells, List.mem_cons, List.not_mem_nil, or_false] at hu
  rcases hu with rfl | rfl | rfl | rfl | rfl | rfl | rfl | rfl | rfl | rfl | rfl
  · rfl
  · rfl
  · rfl
  · rfl
  · rfl
  · rfl
  · exact h1
  · exact h2
  · exact h3
  · exact h4
  · exact h5

theorem noKinds (B : Nat) (W : World) : KindsV B W noS [] := ⟨by simp, .inl ⟨rfl, rfl⟩⟩
theorem noDraws (B : Nat) (W : World) : IntsX B W noS [] := .inl ⟨by simp, .inl ⟨rfl, rfl⟩⟩

theorem first_ok {w1 w2 : World} {lo1 lo2 : Nat} {k1 k2 r : Value} (hr : ∃ a n c, r = .slice a n c) (hz2 : w1.heap.size ≤ w2.heap.size) (hk1 : KindsIn (fun b => lo1 ≤ b ∧ b < w1.heap.size) w2 k1 ownKs) (hk2 : KindsIn (fun b => lo2 ≤ b ∧ b < w2.heap.size) w2 k2 ownKs) (o : Obj) :
    ∀ x ∈ firstOps k1 k2 (.slice (some ⟨w2.heap.size, 0, none⟩) 2 2) r, OpOK (w2.heap.size + 1) ((w2.alloc (.cells #[.int .i64 7, .int .i64 9] 3)).alloc o) x := by
  have hb := (Below.refl w2.heap.size w2).alloc (Nat.le_refl _) (.cells #[.int .i64 7, .int .i64 9] 3)
  have hb' := (Below.refl (w2.heap.size + 1) (w2.alloc (.cells #[.int .i64 7, .int .i64 9] 3))).alloc (by simp) o
  have hbb := hb.trans (hb'.mono (by omega))
  have n := noKinds (w2.heap.size + 1) ((w2.alloc (.cells #[.int .i64 7, .int .i64 9] 3)).alloc o)
  have m := noDraws (w2.heap.size + 1) ((w2.alloc (.cells #[.int .i64 7, .int .i64 9] 3)).alloc o)
  have a1 := (hk1.only (Only.new (S := fun _ => False) hbb) (by simp)).toV (B := w2.heap.size + 1) (by intro b hb; omega)
  have a2 := (hk2.only (Only.new (S := fun _ => False) hbb) (by simp)).toV (B := w2.heap.size + 1) (by intro b hb; omega)
  have d2 : IntsX (w2.heap.size + 1) ((w2.alloc (.cells #[.int .i64 7, .int .i64 9] 3)).alloc o) (.slice (some ⟨w2.heap.size, 0, none⟩) 2 2) [7, 9] := by
    refine .inl ⟨by simp, .inr ⟨w2.heap.size, 0, 2, rfl, by omega, ?_⟩⟩
    exact (rowAt_alloc w2 [.int .i64 7, .int .i64 9] 3).below hb' (by omega)
  intro x hx
  simp only [firstOps, List.mem_cons, List.not_mem_nil, or_false] at hx
  rcases hx with rfl | rfl | rfl | rfl | rfl | rfl | rfl | rfl | rfl | rfl | rfl
  · exact ⟨a1, m, by simp [mkOp], by simp [mkOp], ⟨_, _, _, rfl⟩, ⟨_, _, _, rfl⟩, ⟨_, rfl⟩⟩
  · exact ⟨a2, d2, by simp [mkOp], by simp [mkOp], ⟨_, _, _, rfl⟩, ⟨_, _, _, rfl⟩, ⟨_, rfl⟩⟩
  all_goals first | exact ⟨n, m, by simp [mkOp], by simp [mkOp], ⟨_, _, _, rfl⟩, ⟨_, _, _, rfl⟩, ⟨_, rfl⟩⟩ | exact ⟨n, m, by simp [mkOp], by simp [mkOp], hr, ⟨_, _, _, rfl⟩, ⟨_, rfl⟩⟩

set_option maxRecDepth 100000 in
set_option maxHeartbeats 4000000 in
theorem first_any (w : World) : Calls Tryz.prog 9 #[] w fun e w' => ∃ g os, e = .returned (.slice (some ⟨g, 0, none⟩) 11 11) ∧ Below w.heap.size w w' ∧ w.heap.size ≤ g ∧ os.length = 11 ∧
    (∃ cur, w'.heap[g]? = some (.cells cur 41 (0, 0)) ∧ cur.toList = opsRow os) ∧ g < w'.heap.size ∧ (∀ o ∈ os, OpOK g w' o) ∧ ∀ u ∈ opsRow os, u.oneCell' = true := by
  go_enter Tryz.func9, Tryz.ntmps9
  go_wp2_with fail
  refine (own_any _).mono ?_
  rintro e w1 ⟨sa1, sc1, rfl, hb1, hk1⟩
  go_wp2_with fail
  refine (own_any _).mono ?_
  rintro e w2 ⟨sa2, sc2, rfl, hb2, hk2⟩
  have hz1 := hb1.size
  have hz2 := hb2.size
  simp only [World.size_alloc] at hz1
  have hB : Below w.heap.size w w2 := ((((Below.refl w.heap.size w).alloc (Nat.le_refl _) (.cells #[.int .i64 (-3)] 3)).alloc (by simp) (.cells #[.int .i64 1, .int .i64 10, .int .i64 1, .int .i64 0, .slice (some ⟨w.heap.size, 0, none⟩) 1 1] 46)).trans (hb1.mono (by simp; omega))).trans (hb2.mono (by omega))
  have HB := hide hB
  have Hk1 := hide (KindsIn.only hk1 (Only.new (S := fun _ => False) hb2) (by simp))
  have Hk2 := hide hk2
  clear hk1 hk2 hB hb1
  go_wp2
  go_ret
  refine ⟨w2.heap.size + 1, firstOps (.slice sa1 2 sc1) (.slice sa2 2 sc2) (.slice (some ⟨w2.heap.size, 0, none⟩) 2 2) (.slice (some ⟨w.heap.size + 1, 0, none⟩) 1 1), by simp, ?_, by omega, rfl, ⟨_, ?_, rfl⟩, by simp, ?_, ?_⟩
  · exact (HB.out.alloc (by omega) _).alloc (by simp; omega) _
  · have := heap_new (w2.alloc (.cells #[.int .i64 7, .int .i64 9] 3)) (.cells (opsRow (firstOps (.slice sa1 2 sc1) (.slice sa2 2 sc2) (.slice (some ⟨w2.heap.size, 0, none⟩) 2 2) (.slice (some ⟨w.heap.size + 1, 0, none⟩) 1 1))).toArray 41)
    rw [World.size_alloc] at this
    exact this
  · exact first_ok ⟨_, _, _, rfl⟩ hz2 Hk1.out Hk2.out _
  · refine opsRow_one _ ?_
    intro o ho
    simp only [firstOps, List.mem_cons, List.not_mem_nil, or_false] at ho
    rcases ho with rfl | rfl | rfl | rfl | rfl | rfl | rfl | rfl | rfl | rfl | rfl <;> exact ⟨rfl, rfl, rfl, rfl, rfl⟩
end Go.Proofs.YtndlmgocldckfaaGreat

namespace Go.Proofs.YtndlmgocldckfaaGreat
open Go.RowKit
set_option linter.unusedVariables false
set_option linter.unusedSimpArgs false

/-- What a step on a kernel may write into. -/
def AskS (wb : Nat) (ps : List Pair) (bk : BookD) (b : Nat) : Prop := MutS ps b ∨ b = wb ∨ bk.bs b

set_option maxRecDepth 100000 in
set_option maxHeartbeats 4000000 in
theorem lw_askedG {base : Nat} (wb : Nat) (lv : Value) (ps : List Pair) (bk : BookD) (o : OpD) (w : World) (h : Inv base w wb lv ps bk) (ho : OpOK base w o) (hk : o.kind = 3 ∨ o.kind = 4 ∨ o.kind = 5 ∨ o.kind = 6 ∨ o.kind = 7) (hps : 0 < ps.length) (hlen : (ps.length + 1) * 16 ≤ 140737488355328) (G : BookD → Prop)
    (hA : ∀ (W' : World) (p : Pair), Inv base W' wb lv ps bk → ps[pickF o.a ps.length]? = some p → Calls Tryz.prog 17 #[.pointer (some ⟨wb, 0, none⟩), .agg #[.pointer (some ⟨p.kb, 0, none⟩), .pointer (some ⟨p.rb, 0, none⟩)], .agg #[.int .i64 o.kind, .int .i64 o.a, .int .i64 o.b, .int .i64 o.c, .int .i64 o.d, .int .i64 o.ents, o.kv, o.l, o.rv, o.qv, o.sv]] W'
      fun e w' => e = .returned (.bool true) ∧ Only (AskS wb ps bk) W' w' ∧ ∃ ps' bk', ps'.length = ps.length ∧ Inv base w' wb lv ps' bk' ∧ G bk') :
    Calls Tryz.prog 11 #[.pointer (some ⟨wb, 0, none⟩), .agg #[.int .i64 o.kind, .int .i64 o.a, .int .i64 o.b, .int .i64 o.c, .int .i64 o.d, .int .i64 o.ents, o.kv, o.l, o.rv, o.qv, o.sv]] w
      fun e w' => e = .returned (.bool true) ∧ Below base w w' ∧ ∃ lv' ps' bk', ps'.length ≤ ps.length + 1 ∧ Inv base w' wb lv' ps' bk' ∧ G bk' := by
  have hbl : base ≤ w.heap.size := Nat.le_trans h.blo (Nat.le_of_lt h.wlt)
  obtain ⟨W, hW⟩ : ∃ W, W = w.alloc (.cells #[.int .i64 o.kind, .int .i64 o.a, .int .i64 o.b, .int .i64 o.c, .int .i64 o.d, .int .i64 o.ents, o.kv, o.l, o.rv, o.qv, o.sv] 41) := ⟨_, rfl⟩
  have hb : Below w.heap.size w W := by rw [hW]; exact (Below.refl _ _).alloc (Nat.le_refl _) _
  have hWs : W.heap.size = w.heap.size + 1 := by rw [hW]; simp
  have hI := h.below hb
  have c0 : W.cell? ⟨w.heap.size, 0, none⟩ = some (.int .i64 o.kind) := by rw [hW]; simp [go_sem]
  have c1 : W.cell? ⟨w.heap.size, 1, none⟩ = some (.int .i64 o.a) := by rw [hW]; simp [go_sem]
  have c2 : W.cell? ⟨w.heap.size, 2, none⟩ = some (.int .i64 o.b) := by rw [hW]; simp [go_sem]
  have c3 : W.cell? ⟨w.heap.size, 3, none⟩ = some (.int .i64 o.c) := by rw [hW]; simp [go_sem]
  have c4 : W.cell? ⟨w.heap.size, 4, none⟩ = some (.int .i64 o.d) := by rw [hW]; simp [go_sem]
  have c5 : W.cell? ⟨w.heap.size, 5, none⟩ = some (.int .i64 o.ents) := by rw [hW]; simp [go_sem]
  have c6 : W.cell? ⟨w.heap.size, 6, none⟩ = some o.kv := by rw [hW]; simp [go_sem]
  have c7 : W.cell? ⟨w.heap.size, 7, none⟩ = some o.l := by rw [hW]; simp [go_sem]
  have c8 : W.cell? ⟨w.heap.size, 8, none⟩ = some o.rv := by rw [hW]; simp [go_sem]
  have c9 : W.cell? ⟨w.heap.size, 9, none⟩ = some o.qv := by rw [hW]; simp [go_sem]
  have c10 : W.cell? ⟨w.heap.size, 10, none⟩ = some o.sv := by rw [hW]; simp [go_sem]
  have hcell := hI.cell
  have hcw := h.cell
  have hwl := h.wlt
  have howns := hI.owns
  have hpk := pickF_lt o.a ps.length hps
  obtain ⟨p, hp⟩ : ∃ p, ps[pickF o.a ps.length]? = some p := ⟨ps[pickF o.a ps.length], by simp [hpk]⟩
  obtain ⟨r0, r1⟩ := pairsRow_get ps _ p hp
  obtain ⟨hnil, hn0, _⟩ | ⟨g, cap, rfl, hgb, hglt, hrow⟩ := owns_row howns
  · omega
  have y0 := hrow _ _ r0
  have y1 := hrow _ _ r1
  simp only [Nat.zero_add] at y0 y1
  have hgm : ¬ AskS wb ps bk g := by
    rintro (⟨q, hq, hm⟩ | hm | hm)
    · exact (hI.muts q hq g (.inl hm)).2.2.1 rfl
    · exact hI.lne (by rw [← hm]; rfl)
    · exact (hI.bks g hm).2.2.2 rfl
  have hbm : ¬ AskS wb ps bk w.heap.size := by
    rintro (⟨q, hq, hm⟩ | hm | hm)
    · have := (h.pairs q hq).lt _ (.inl hm); omega
    · omega
    · have := (h.bks _ hm).2.1; omega
  have HA : Hid (∀ W', W'.heap = W.heap → W'.os = W.os → W'.tape = W.tape → W'.output = W.output → Calls Tryz.prog 17 #[.pointer (some ⟨wb, 0, none⟩), .agg #[.pointer (some ⟨p.kb, 0, none⟩), .pointer (some ⟨p.rb, 0, none⟩)], .agg #[.int .i64 o.kind, .int .i64 o.a, .int .i64 o.b, .int .i64 o.c, .int .i64 o.d, .int .i64 o.ents, o.kv, o.l, o.rv, o.qv, o.sv]] W'
      fun e w' => e = .returned (.bool true) ∧ Only (AskS wb ps bk) W w' ∧ Hid (w'.cell? ⟨wb, 0, none⟩ = some (.slice (some ⟨g, 0, none⟩) ps.length cap)) ∧ ∃ ps' bk', ps'.length = ps.length ∧ Inv base w' wb (.slice (some ⟨g, 0, none⟩) ps.length cap) ps' bk' ∧ G bk') := by
    intro W' h1 h2 h3 h4
    have hbW : Below W.heap.size W W' := ⟨h2, h3, h4, by rw [h1]; exact Nat.le_refl _, fun k _ => by rw [h1]⟩
    refine (hA W' p (hI.below hbW) hp).mono ?_
    rintro e w' ⟨rfl, ho, ps', bk', hl, hi, hg⟩
    exact ⟨rfl, (Only.new hbW).trans ho, hi.cell, ps', bk', hl, hi, hg⟩
  have k1 : (o.kind == 1) = false := by rcases hk with e | e | e | e | e <;> simp [e]
  have k2 : (o.kind == 2) = false := by rcases hk with e | e | e | e | e <;> simp [e]
  have k8 : (o.kind == 8) = false := by rcases hk with e | e | e | e | e <;> simp [e]
  have k10 : decide (10 ≤ o.kind) = false := by rcases hk with e | e | e | e | e <;> simp [e]
  have k3 : decide (o.kind < 3) = false := by rcases hk with e | e | e | e | e <;> simp [e]
  have k9 : decide (9 < o.kind) = false := by rcases hk with e | e | e | e | e <;> simp [e]
  have kl : ((ps.length : Int) == 0) = false := by simp; intro e; simp [e] at hps
  have halo := ho.alo
  have hahi := ho.ahi
  have hpl : ps.length ≤ 8796093022208 := by omega
  have HB : Hid (base ≤ w.heap.size ∧ (∀ b, AskS wb ps bk b → base ≤ b)) := by
    refine ⟨hbl, ?_⟩
    rintro b (⟨q, hq, hb⟩ | hb | hb)
    · exact (h.muts q hq b (.inl hb)).1
    · rw [hb]; exact h.blo
    · exact (h.bks b hb).1
  have Hpk := hide hpk
  have hpk' : (pickF o.a ps.length : Int) < (ps.length : Int) := by omega
  have hpk0 : (0 : Int) ≤ (pickF o.a ps.length : Int) := by omega
  obtain ⟨x, hx⟩ : ∃ x, x = pickF o.a ps.length := ⟨_, rfl⟩
  have HX := hide hx
  rw [← hx] at y0 y1 hpk' hpk0 r0 r1 hpk
  have HPick : Hid (∀ W', Calls Tryz.prog 18 #[.int .i64 o.a, .int .i64 ps.length] W' fun e w' => e = .returned (.int .i64 x) ∧ w' = W') := by
    intro W'
    have := pick_any o.a ps.length W' hps (by omega) halo hahi
    rw [← hx] at this
    exact this
  clear hx hk howns hrow r0 r1 hp h ho hI hlen halo hahi Hpk hA
  have HW := hide hW
  clear hW
  go_enter Tryz.func11, Tryz.ntmps11
  go_wp2_with fail
  rw [← HW.out]
  go_region_held3 (fun W' => W'.cell? ⟨wb, 0, none⟩ = some (.slice (some ⟨g, 0, none⟩) ps.length cap) ∧ W'.cell? ⟨w.heap.size, 0, none⟩ = some (.int .i64 o.kind) ∧ W'.cell? ⟨w.heap.size, 1, none⟩ = some (.int .i64 o.a) ∧ W'.cell? ⟨w.heap.size, 2, none⟩ = some (.int .i64 o.b) ∧ W'.cell? ⟨w.heap.size, 3, none⟩ = some (.int .i64 o.c) ∧ W'.cell? ⟨w.heap.size, 4, none⟩ = some (.int .i64 o.d) ∧ W'.cell? ⟨w.heap.size, 5, none⟩ = some (.int .i64 o.ents) ∧ W'.cell? ⟨w.heap.size, 6, none⟩ = some o.kv ∧ W'.cell? ⟨w.heap.size, 7, none⟩ = some o.l ∧ W'.cell? ⟨w.heap.size, 8, none⟩ = some o.rv ∧ W'.cell? ⟨w.heap.size, 9, none⟩ = some o.qv ∧ W'.cell? ⟨w.heap.size, 10, none⟩ = some o.sv ∧ W'.cell? ⟨g, x * 2, none⟩ = some (.pointer (some ⟨p.kb, 0, none⟩)) ∧ W'.cell? ⟨g, x * 2 + 1, none⟩ = some (.pointer (some ⟨p.rb, 0, none⟩)))
    (first | go_keep | exact ⟨hc2.out, ho2.at c0 hbm, ho2.at c1 hbm, ho2.at c2 hbm, ho2.at c3 hbm, ho2.at c4 hbm, ho2.at c5 hbm, ho2.at c6 hbm, ho2.at c7 hbm, ho2.at c8 hbm, ho2.at c9 hbm, ho2.at c10 hbm, ho2.at y0 hgm, ho2.at y1 hgm⟩)
    (first | (go_at_call 18; refine (HPick.out _).mono ?_; rintro e w1 ⟨rfl, rfl⟩) | (go_at_call 17; refine (HA.out _ (by rfl) (by rfl) (by rfl) (by rfl)).mono ?_; rintro e w2 ⟨rfl, ho2, hc2, hI2⟩))
  all_goals
    go_wp2
    go_ret
    obtain ⟨ps', bk', hl', hI', hG'⟩ := hI2
    exact ⟨by simp, (hb.mono hbl).trans (ho2.below (by omega) (fun k hk hm => by have := HB.out.2 k hm; omega)), _, ps', bk', by omega, hI', hG'⟩

theorem lw_asked {base : Nat} (wb : Nat) (lv : Value) (ps : List Pair) (bk : BookD) (o : OpD) (w : World) (h : Inv base w wb lv ps bk) (ho : OpOK base w o) (hk : o.kind = 3 ∨ o.kind = 5 ∨ o.kind = 6) (hps : 0 < ps.length) (hlen : (ps.length + 1) * 16 ≤ 140737488355328) :
    Calls Tryz.prog 11 #[.pointer (some ⟨wb, 0, none⟩), .agg #[.int .i64 o.kind, .int .i64 o.a, .int .i64 o.b, .int .i64 o.c, .int .i64 o.d, .int .i64 o.ents, o.kv, o.l, o.rv, o.qv, o.sv]] w
      fun e w' => e = .returned (.bool true) ∧ Below base w w' ∧ ∃ lv' ps', ps'.length ≤ ps.length + 1 ∧ Inv base w' wb lv' ps' bk := by
  refine (lw_askedG wb lv ps bk o w h ho (by omega) hps hlen (· = bk) ?_).mono ?_
  · intro W' p hI hp
    refine (asked_any wb _ ps bk _ p o.kind o.a o.b o.c o.d o.ents o.kv o.l o.rv o.qv o.sv W' hI hp hk).mono ?_
    rintro e w' ⟨rfl, ho, ps', hl, hi⟩
    exact ⟨rfl, ho.mono (fun b _ hb => .inl hb), ps', bk, hl, hi, rfl⟩
  · rintro e w' ⟨rfl, hB, lv', ps', bk', hl, hi, rfl⟩
    exact ⟨rfl, hB, lv', ps', hl, hi⟩
end Go.Proofs.YtndlmgocldckfaaGreat
