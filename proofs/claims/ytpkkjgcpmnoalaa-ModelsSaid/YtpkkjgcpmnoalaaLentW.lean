import Derived.Test.YtpkkjgcpmnoalaaLentN
import Derived.Deep.RegionWith
namespace Go.Proofs.Ytpkkjgcpmnoalaa
open Go.RowKit
set_option linter.unusedVariables false
set_option linter.unusedSimpArgs false
attribute [local go_sem] eqlNilI eqlNilC eqlNilK

/-- The caller has looked at the first k places of what it lent, and written over them. -/
structure WholeTo (w : World) (g n k : Nat) (rs : List (Option Nat)) (wr : World) : Prop where
  only : Only (fun x => x = g ∨ ∃ i : Nat, rs[i]? = some (some x)) w wr
  cells : ∀ j, k ≤ j → j < n + 8 → wr.cell? ⟨g, j, none⟩ = w.cell? ⟨g, j, none⟩
  room : Room wr g (n + 8)
  codes : ∀ i c : Nat, k ≤ i → rs[i]? = some (some c) → wr.heap[c]? = w.heap[c]?

theorem WholeTo.below {w wr w2 : World} {g n k : Nat} {rs : List (Option Nat)} (x : WholeTo w g n k rs wr) (hg : g < w.heap.size) (hc : ∀ i c : Nat, rs[i]? = some (some c) → c < w.heap.size) (hb : Below wr.heap.size wr w2) : WholeTo w g n k rs w2 := by
  have hs := x.only.size
  refine ⟨x.only.trans (Only.new hb), ?_, x.room.below hb (by omega), ?_⟩
  · intro j h1 h2
    rw [← x.cells j h1 h2]; exact hb.cell (p := ⟨g, j, none⟩) (by show g < _; omega)
  · intro i c h1 h2
    rw [← x.codes i c h1 h2]; exact hb.block c (by have := hc i c h2; omega)

theorem WholeTo.step {w wr w3 : World} {g n k : Nat} {rs : List (Option Nat)} (x : WholeTo w g n k rs wr) (hg : g < w.heap.size) (hc : ∀ i c : Nat, rs[i]? = some (some c) → c < w.heap.size ∧ c ≠ g)
    (ha : ∀ i j c : Nat, rs[i]? = some (some c) → rs[j]? = some (some c) → i = j) (ho : Only (fun y => rs[k]? = some (some y)) wr w3) (v : Value) : WholeTo w g n (k + 1) rs (w3.setCell ⟨g, k, none⟩ v) := by
  have hs := x.only.size
  have hgk : ¬ rs[k]? = some (some g) := fun h => (hc k g h).2 rfl
  have hcell : ∀ j v', wr.cell? ⟨g, j, none⟩ = some v' → w3.cell? ⟨g, j, none⟩ = some v' := fun j v' h => ho.at h hgk
  refine ⟨(x.only.trans (ho.mono fun y _ hy => .inr ⟨k, hy⟩)).setCell (.inl rfl) _, ?_, (x.room.only ho hgk).setCell _ _, ?_⟩
  · intro j h1 h2
    rw [World.cell?_setCell_other _ _ _ _ (by simp; try omega)]
    obtain ⟨u, hu⟩ := Option.isSome_iff_exists.1 (x.room j h2).1
    rw [hcell j u hu, ← x.cells j (by omega) h2, hu]
  · intro i c h1 h2
    rw [Below.heap_setCell _ _ _ _ (by exact (hc i c h2).2), ← x.codes i c (by omega) h2]
    refine ho.block c (by have := (hc i c h2).1; omega) fun h => ?_
    have := ha i k c h2 h
    omega

theorem wholeCode_any (lo : Nat) (r : Option Nat) (l : List Ins) (sa va : Option Addr) (sc vc : Nat) (w : World) (hs : Hid (codeVal r l = .slice sa l.length sc)) (hv : CodeV lo w (.slice va l.length vc) l)
    (hn : r = none ↔ Value.slice va l.length vc = .slice none 0 0) (hc : ∀ c, r = some c → CodeAt w c 0 (lentL l) ∧ Room w c ((l.length + 8) * 4) ∧ lo ≤ c ∧ c < w.heap.size) :
    Calls Try.prog 55 #[.slice sa l.length sc, .slice va l.length vc] w fun e w' => e = .returned (.bool true) ∧ Only (fun x => r = some x) w w' ∧ ∀ c, r = some c → CodeAt w' c 0 (List.replicate (l.length + 8) one4) := by
  cases r with
  | none =>
    have h0 := hn.1 rfl
    rw [h0]
    refine (wholeCode_nil _ w).mono ?_
    rintro e w' ⟨rfl, rfl⟩
    exact ⟨rfl, Only.refl _ _, by simp⟩
  | some c =>
    obtain ⟨h1, h2, h3, h4⟩ := hc c rfl
    have h0 : ¬ Value.slice va l.length vc = .slice none 0 0 := fun h => by simpa using hn.2 h
    obtain ⟨hl, ⟨h, _⟩ | ⟨b, off, cap, hb, hlo, hcode⟩ | ⟨ea, ec, he, rfl⟩⟩ := hv
    · exact absurd h h0
    · rw [← hs.out, hb]
      refine (wholeCode_some b off cap c l w hl hcode (by omega) h1 h2 h4).mono ?_
      rintro e w' ⟨rfl, h5, h6⟩
      refine ⟨rfl, h5.mono (by intro k _ hk; subst hk; rfl), ?_⟩
      intro c' hc'; cases hc'; exact h6
    · rw [← hs.out, he]
      refine (wholeCode_empty ea ec c w h1 h2 h4).mono ?_
      rintro e w' ⟨rfl, h5, h6⟩
      refine ⟨rfl, h5.mono (by intro k _ hk; subst hk; rfl), ?_⟩
      intro c' hc'; cases hc'; exact h6

set_option maxHeartbeats 400000 in
theorem wholeModel_nil (ents : Int) (o v : Value) (w : World) : Calls Try.prog 20 #[.agg #[.int .i64 ents, o], v, .agg #[.int .i64 ents, .slice none 0 0]] w
    fun e w' => e = .returned (.bool true) ∧ Below w.heap.size w w' := by
  go_enter Try.func20, Try.ntmps20
  go_wp2
  go_ret
  exact ⟨rfl, ((Below.refl _ _).alloc (Nat.le_refl _) _).alloc (by simp) _⟩

set_option maxRecDepth 100000 in
set_option maxHeartbeats 1000000 in
theorem wholeModel_gen (ents : Int) (ka : Addr) (lo hi g h b off cap : Nat) (rs : List (Option Nat)) (ks : List (List Ins)) (w : World) (hka : 0 < ks.length → ka = ⟨b, off, none⟩) (hl : ks.length ≤ 5864062014805) (x : LentTo lo hi w g h b off ks.length rs ks) :
    Calls Try.prog 20 #[.agg #[.int .i64 ents, .slice (some ⟨g, 0, none⟩) ks.length (ks.length + 8)], .slice (some ⟨h, 0, none⟩) ks.length ks.length, .agg #[.int .i64 ents, .slice (some ka) ks.length cap]] w
      fun e w' => e = .returned (.bool true) ∧ Only (fun y => y = g ∨ ∃ i : Nat, rs[i]? = some (some y)) w w' := by
  have hgw := x.ghi
  have hhw := x.hhi
  have hblo := x.blo
  have hlohi := x.lohi
  have hglo := x.glo
  have hhlo := x.hlo
  have hgh := x.gh
  have hcw : ∀ i c : Nat, rs[i]? = some (some c) → c < w.heap.size ∧ c ≠ g ∧ c ≠ h ∧ hi ≤ c := by
    intro i c hr
    have hi' : i < ks.length := by have := (List.getElem?_eq_some_iff.1 hr).1; rw [x.len] at this; exact this
    have := x.code i c ks[i] hr (by simp [hi'])
    exact ⟨this.2.2.2.1, this.2.2.2.2.1, this.2.2.2.2.2, this.2.2.1⟩
  have Hcw := hide hcw
  clear hcw
  have hns : ∀ y, y < hi → ¬ (y = g ∨ ∃ i : Nat, rs[i]? = some (some y)) := by
    rintro y hy (rfl | ⟨i, hi'⟩)
    · omega
    · have := Hcw.out i y hi'; omega
  have hnh : ¬ (h = g ∨ ∃ i : Nat, rs[i]? = some (some h)) := by
    rintro (h0 | ⟨i, hi'⟩)
    · omega
    · have := Hcw.out i h hi'; omega
  have Hns := hide hns
  have Hnh := hide hnh
  clear hns hnh
  go_enter Try.func20, Try.ntmps20
  go_wp2
  go_loopw [9, 10, 11, 12, 13] (fun ok i _ _ _ wr => ∃ k : Nat, k ≤ ks.length + 8 ∧ i = .int .i64 k ∧ ok = .bool true ∧ WholeTo w g ks.length k rs wr ∧ wr.cell? ⟨w.heap.size + 1, 1, none⟩ = some (.slice (some ka) ks.length cap) ∧ w.heap.size + 1 < wr.heap.size) (fun _ i _ _ _ _ => ks.length + 8 - (intOf i).toNat)
  case atStart =>
    have hb : Below w.heap.size w _ := ((Below.refl w.heap.size w).alloc (Nat.le_refl _) (.cells #[.int .i64 ents, .slice (some ⟨g, 0, none⟩) ks.length (ks.length + 8)] 38)).alloc (by simp) (.cells #[.int .i64 ents, .slice (some ka) ks.length cap] 38)
    refine ⟨0, by omega, rfl, rfl, WholeTo.below ⟨Only.refl _ _, fun _ _ _ => rfl, x.room, fun _ _ _ _ => rfl⟩ hgw (fun i c hr => (Hcw.out i c hr).1) hb, by simp [go_sem], by simp⟩
  case round =>
    obtain ⟨k, hk, rfl, rfl, hW, hm1, hz⟩ := hrel
    have hson := hW.only.size
    by_cases hlt : k < ks.length
    · obtain rfl := hka (by omega)
      obtain ⟨hs0, hf0⟩ := hW.room k (by omega)
      have hrk : rs[k]? = some (rs[k]'(by rw [x.len]; exact hlt)) := by simp [x.len, hlt]
      have hlk : ks[k]? = some ks[k] := by simp [hlt]
      generalize rs[k]'(by rw [x.len]; exact hlt) = r at hrk
      generalize ks[k] = l at hlk
      obtain ⟨hg0, hh0⟩ := x.row k r l hrk hlk
      obtain ⟨v, hb0, hv, hiff⟩ := x.orig k l hlk
      have hiff := hiff hlt
      obtain ⟨sa, sc, hcv⟩ : ∃ sa sc, codeVal r l = .slice sa l.length sc := by
        cases r with
        | none => rw [x.none_ k l hrk hlk]; exact ⟨_, _, rfl⟩
        | some c => exact ⟨_, _, rfl⟩
      obtain ⟨va, vc, rfl⟩ : ∃ va vc, v = .slice va l.length vc := by
        obtain ⟨_, ⟨rfl, rfl⟩ | ⟨b', off', cap', rfl, _, _⟩ | ⟨ea, ec, rfl, rfl⟩⟩ := hv
        · exact ⟨_, _, rfl⟩
        · exact ⟨_, _, rfl⟩
        · exact ⟨_, _, rfl⟩
      have Hn : Hid (r = none ↔ Value.slice va l.length vc = .slice none 0 0) := by
        show _ ↔ _; rw [← hiff, hrk]; simp
      rw [hcv] at hg0 hh0
      have Hcv := hide hcv
      have hg0 := (hW.cells k (Nat.le_refl _) (by omega)).trans hg0
      have hh0 := hW.only.at hh0 Hnh.out
      have hb0 := hW.only.at hb0 (Hns.out b (by omega))
      have Hv : Hid (∀ W, Below wr.heap.size wr W → CodeV lo W (.slice va l.length vc) l) := by
        intro W hb
        exact (hv.below (hW.only.below (by omega) (fun y hy => Hns.out y (by omega)))).below (hb.mono (by omega))
      have Hc : Hid (∀ W, Below wr.heap.size wr W → ∀ c, r = some c → CodeAt W c 0 (lentL l) ∧ Room W c ((l.length + 8) * 4) ∧ lo ≤ c ∧ c < W.heap.size) := by
        intro W hb c hc
        subst hc
        obtain ⟨h1, h2, h3, h4, h5, h6⟩ := x.code k c l hrk hlk
        have hblk := hW.codes k c (Nat.le_refl _) hrk
        have hbs := hb.size
        have hon : Only (fun y => y ≠ c) w wr := ⟨hW.only.os, hW.only.tape, hW.only.output, hW.only.size, fun y hy hn => by simp at hn; subst hn; exact hblk⟩
        exact ⟨(h1.only hon (by simp)).below hb (by omega), (h2.only hon (by simp)).below hb (by omega), by omega, by omega⟩
      have HK : Hid (rs[k]? = some r) := hrk
      have Hlk : Hid (ks[k]? = some l) := hlk
      have Hll : Hid (l.length ≤ 4398046511104) := hv.1
      clear hcv hv hrk hlk hiff
      have Hx := hide x
      clear x
      by_cases h0 : l.length = 0
      · have h0' : ((l.length : Int) == 0) = true := by simp [h0]
        clear h0
        go_wp2
        go_quiet (fail)
        go_wp2
        go_region_with (go_at_call 55; refine (wholeCode_any lo r l _ _ _ _ _ Hcv (Hv.out _ (by exact (below_drewN (Below.refl _ _) nq).drew)) Hn.out (Hc.out _ (by exact (below_drewN (Below.refl _ _) nq).drew))).mono ?_; rintro e w3 ⟨rfl, ho3, hone⟩)
        all_goals
          have ho4 : Only (fun y => r = some y) wr w3 := (Only.new ((below_drewN (Below.refl _ _) nq).drew)).trans ho3
          clear hone ho3
          have hng : ¬ r = some g := fun e => (Hcw.out k g (e ▸ HK.out)).2.1 rfl
          have hg3 := ho4.at hg0 hng
          have hf3 := ((hW.room.only ho4 hng) k (by omega)).2
          have hmm := ho4.at hm1 (fun e => by have := (Hcw.out k _ (e ▸ HK.out)).1; omega)
          have hsz3 := ho4.size
          clear hng
          go_wp2
          go_roundw
          case rel =>
            refine ⟨k + 1, by omega, by go_num, rfl, hW.step hgw (fun i c hr => ⟨(Hcw.out i c hr).1, (Hcw.out i c hr).2.1⟩) Hx.out.apart (ho4.mono fun y _ hy => by rw [HK.out, hy]) _, ?_, by simp [World.setCell]; omega⟩
            rw [World.cell?_setCell_other _ _ _ _ (by simp; try omega)]; exact hmm
          case measure => simp [intOf]; omega
      · have h0' : ((l.length : Int) == 0) = false := by simp; intro e; exact h0 (by simp [e])
        obtain ⟨c, rfl⟩ : ∃ c, r = some c := by
          cases r with
          | none =>
            have := Hx.out.none_ k l HK.out (by obtain ⟨l', hl', hle⟩ : ∃ l', ks[k]? = some l' ∧ l' = l := ⟨l, Hlk.out, rfl⟩; rw [hl', hle])
            rw [this] at h0; simp at h0
          | some c => exact ⟨c, rfl⟩
        obtain ⟨rfl, rfl⟩ : sa = some ⟨c, 0, none⟩ ∧ sc = l.length + 8 := by
          have := Hcv.out; simp [codeVal] at this; exact ⟨this.1.symm, this.2.symm⟩
        have hpos : 0 < l.length := by omega
        clear h0
        go_wp2
        go_quiet (fail)
        go_wp2
        go_region_with (go_at_call 55; refine (wholeCode_any lo (some c) l _ _ _ _ _ Hcv (Hv.out _ (by exact (below_drewN (Below.refl _ _) nq).drew)) Hn.out (Hc.out _ (by exact (below_drewN (Below.refl _ _) nq).drew))).mono ?_; rintro e w3 ⟨rfl, ho3, hone⟩)
        all_goals
          have ho4 : Only (fun y => some c = some y) wr w3 := (Only.new ((below_drewN (Below.refl _ _) nq).drew)).trans ho3
          obtain ⟨q0, q1, q2, q3⟩ := hone c rfl 0 one4 (by simp)
          simp only [Nat.zero_mul, Nat.zero_add, one4] at q0 q1 q2 q3
          clear hone ho3
          have hng : ¬ some c = some g := fun e => (Hcw.out k c HK.out).2.1 (Option.some.inj e)
          have hg3 := ho4.at hg0 hng
          have hf3 := ((hW.room.only ho4 hng) k (by omega)).2
          have hmm := ho4.at hm1 (fun e => by have := (Hcw.out k c HK.out).1; have := Option.some.inj e; omega)
          have hsz3 := ho4.size
          clear hng
          go_wp2
          go_roundw
          case rel =>
            refine ⟨k + 1, by omega, by go_num, rfl, hW.step hgw (fun i c hr => ⟨(Hcw.out i c hr).1, (Hcw.out i c hr).2.1⟩) Hx.out.apart (ho4.mono fun y _ hy => by rw [HK.out, hy]) _, ?_, by simp [World.setCell]; omega⟩
            rw [World.cell?_setCell_other _ _ _ _ (by simp; try omega)]; exact hmm
          case measure => simp [intOf]; omega
    · by_cases hlt2 : k < ks.length + 8
      · obtain ⟨hs0, hf0⟩ := hW.room k (by omega)
        have hg0 := (hW.cells k (Nat.le_refl _) (by omega)).trans (x.spare k (by omega) hlt2)
        have Hx := hide x
        clear x hs0
        go_wp2
        go_roundw
        case rel =>
          refine ⟨k + 1, by omega, by go_num, rfl, hW.step hgw (fun i c hr => ⟨(Hcw.out i c hr).1, (Hcw.out i c hr).2.1⟩) Hx.out.apart (Only.refl _ _) _, ?_, by simp [World.setCell]; omega⟩
          rw [World.cell?_setCell_other _ _ _ _ (by simp; try omega)]; exact hm1
        case measure => simp [intOf]; omega
      · go_wp2
        go_ret
        exact ⟨rfl, hW.only⟩
end Go.Proofs.Ytpkkjgcpmnoalaa
