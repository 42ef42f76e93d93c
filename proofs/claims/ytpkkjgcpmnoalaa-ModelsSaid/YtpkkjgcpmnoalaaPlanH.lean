import Derived.Test.YtpkkjgcpmnoalaaNowR
import Derived.Deep.RegionWith
namespace Go.Proofs.Ytpkkjgcpmnoalaa
open Go.RowKit
set_option linter.unusedVariables false
set_option linter.unusedSimpArgs false

theorem Try.info129 : (Try.prog.info? 129).map (fun i => (i.zero, i.size, i.bytes)) = some (some (.agg #[.int .i64 0, .int .i64 0, .int .i64 0, .int .i64 0]), 4, 32) := by kernel_rfl

/-- Does an event happen ahead of another? -/
def aheadF (a b : Ev) : Bool := decide (a.time < b.time) || (decide (a.time = b.time) && decide (a.number < b.number))
def posF (e : Ev) : List Ev → Nat
  | [] => 0
  | x :: q => if aheadF x e then posF e q + 1 else 0
theorem posF_le (e : Ev) : ∀ q, posF e q ≤ q.length
  | [] => Nat.le_refl _
  | x :: q => by unfold posF; split <;> simp [posF_le e q]
theorem posF_drop {e : Ev} {q : List Ev} {k : Nat} (h : k < q.length) : posF e (q.drop k) = if aheadF q[k] e then posF e (q.drop (k + 1)) + 1 else 0 := by
  rw [List.drop_eq_getElem_cons h, posF]
/-- An event more, in its place. -/
def insF (e : Ev) (q : List Ev) : List Ev := q.take (posF e q) ++ e :: q.drop (posF e q)
theorem insF_length (e : Ev) (q : List Ev) : (insF e q).length = q.length + 1 := by
  have := posF_le e q
  simp [insF]; omega

set_option maxHeartbeats 1000000 in
theorem ahead_any (a b : Ev) (w : World) :
    Calls Try.prog 89 #[.agg #[.int .i64 a.time, .int .i64 a.number, .int .i64 a.kind, .int .i64 a.entity], .agg #[.int .i64 b.time, .int .i64 b.number, .int .i64 b.kind, .int .i64 b.entity]] w
      fun e w' => e = .returned (.bool (aheadF a b)) ∧ Below w.heap.size w w' := by
  by_cases h1 : a.time < b.time
  · have h1' : decide (a.time < b.time) = true := by simpa using h1
    go_enter Try.func89, Try.ntmps89
    go_wp2
    go_ret
    exact ⟨by simp [aheadF, h1], ((Below.refl _ _).alloc (Nat.le_refl _) _).alloc (by simp) _⟩
  · have h1' : decide (a.time < b.time) = false := by simpa using h1
    by_cases h2 : a.time = b.time
    · have h2' : (a.time == b.time) = true := by simpa using h2
      have H2 := hide h2
      clear h2 h1
      go_enter Try.func89, Try.ntmps89
      go_wp2
      go_ret
      exact ⟨by simp [aheadF, H2.out], ((Below.refl _ _).alloc (Nat.le_refl _) _).alloc (by simp) _⟩
    · have h2' : (a.time == b.time) = false := by simpa using h2
      go_enter Try.func89, Try.ntmps89
      go_wp2
      go_ret
      exact ⟨by simp [aheadF, h1, h2], ((Below.refl _ _).alloc (Nat.le_refl _) _).alloc (by simp) _⟩

theorem CodeAt.take {w : World} {b off : Nat} {l : List Ins} (h : CodeAt w b off l) (k : Nat) : CodeAt w b off (l.take k) := by
  intro i x hx
  rw [List.getElem?_take] at hx
  split at hx
  · exact h i x hx
  · simp at hx
theorem CodeAt.drop {w : World} {b off : Nat} {l : List Ins} (h : CodeAt w b off l) (k : Nat) : CodeAt w b (off + k * 4) (l.drop k) := by
  intro i x hx
  rw [List.getElem?_drop] at hx
  obtain ⟨h0, h1, h2, h3⟩ := h (k + i) x hx
  refine ⟨?_, ?_, ?_, ?_⟩
  · rw [← h0]; congr 2; omega
  · rw [← h1]; congr 2; omega
  · rw [← h2]; congr 2; omega
  · rw [← h3]; congr 2; omega

theorem rplan_end {R : Nat → Prop} {rb : Nat} {ents : Int} {ks : List (List Ins)} {draws : List Int} {taken clock next : Int} {regs : List Int} {q : List Ev} {time kind ent : Int} {w w3 w6 : World} {e : Ev} {k : Nat} {sa3 : Option Addr} {sc3 n : Nat}
    (hP : RefK R w rb ents ks draws taken clock next regs q) (hbk : rb < w.heap.size) (hR : ∀ b, R b → b < w.heap.size ∧ b ≠ rb) (hb : Below w.heap.size w w6) (he : e = ⟨time, next, kind, ent⟩) (hp : posF e q = k) (hkl : k ≤ q.length) (hn : n = q.length + 1)
    (hown : w6.ownsRow w3.heap.size 129 4 (.slice sa3 n sc3) n (flat ((q.map evCells).take k ++ [Ins.mk time next kind ent]) ++ flat ((q.map evCells).drop k))) (hz3 : w.heap.size < w3.heap.size) (hz6 : w3.heap.size ≤ w6.heap.size) :
    Ending.returned (.int .i64 next) = Ending.returned (.int .i64 next) ∧ Only (· = rb) w ((w6.setCell ⟨rb, 7, none⟩ (.slice sa3 n sc3)).setCell ⟨rb, 5, none⟩ (.int .i64 (next + 1))) ∧
      RefK (fun b => R b ∨ (w.heap.size ≤ b ∧ b < ((w6.setCell ⟨rb, 7, none⟩ (.slice sa3 n sc3)).setCell ⟨rb, 5, none⟩ (.int .i64 (next + 1))).heap.size)) ((w6.setCell ⟨rb, 7, none⟩ (.slice sa3 n sc3)).setCell ⟨rb, 5, none⟩ (.int .i64 (next + 1))) rb ents ks draws taken clock (next + 1) regs (insF ⟨time, next, kind, ent⟩ q) := by
  obtain ⟨W, hW⟩ : ∃ W, W = (w6.setCell ⟨rb, 7, none⟩ (.slice sa3 n sc3)).setCell ⟨rb, 5, none⟩ (.int .i64 (next + 1)) := ⟨_, rfl⟩
  have ho : Only (· = rb) w6 W := by rw [hW]; exact Only.setCell (S := (· = rb)) (Only.setCell (S := (· = rb)) (Only.refl _ _) rfl _) rfl _
  have how : Only (· = rb) w W := (Only.new hb).trans ho
  have hsz : W.heap.size = w6.heap.size := by rw [hW]; simp [World.setCell]
  have hRo : ∀ b, R b → ¬ b = rb := fun b hb => (hR b hb).2
  have hrm : Room W rb 8 := by rw [hW]; obtain ⟨_, hroom⟩ := hP; exact ((hroom.below hb hbk).setCell _ _).setCell _ _
  obtain ⟨⟨kv, dv, rv, qv, h0, h1, h2, h3, h4, h5, h6, h7, hk, hd, hr, hq⟩, hroom⟩ := hP
  have keep : ∀ i, i ≠ 5 → i ≠ 7 → ∀ v, w.cell? ⟨rb, i, none⟩ = some v → W.cell? ⟨rb, i, none⟩ = some v := by
    intro i h5 h7 v hv
    rw [hW, World.cell?_setCell_other _ _ _ _ (by simp; try omega), World.cell?_setCell_other _ _ _ _ (by simp; try omega)]
    exact below_at hb hv hbk
  have hz := hb.size
  have c5 : W.cell? ⟨rb, 5, none⟩ = some (.int .i64 (next + 1)) := by
    rw [hW]
    exact World.cell?_setCell_same' _ _ _ (((hroom.below hb hbk).setCell _ _) 5 (by omega)).1
  have c7 : W.cell? ⟨rb, 7, none⟩ = some (.slice sa3 n sc3) := by
    rw [hW, World.cell?_setCell_other _ _ _ _ (by simp)]
    exact World.cell?_setCell_same' _ _ _ ((hroom.below hb hbk) 7 (by omega)).1
  have hins : flat ((q.map evCells).take k ++ [Ins.mk time next kind ent]) ++ flat ((q.map evCells).drop k) = flat ((insF ⟨time, next, kind, ent⟩ q).map evCells) := by
    rw [insF, ← he, hp, he]
    simp [flat, evCells, List.map_take, List.map_drop]
  rw [hins] at hown
  have hil : (insF ⟨time, next, kind, ent⟩ q).length = n := by rw [insF_length, hn]
  rw [← hW]
  refine ⟨rfl, how, ⟨kv, dv, rv, .slice sa3 n sc3, keep 0 (by omega) (by omega) _ h0, keep 1 (by omega) (by omega) _ h1, keep 2 (by omega) (by omega) _ h2, keep 3 (by omega) (by omega) _ h3, keep 4 (by omega) (by omega) _ h4, c5, keep 6 (by omega) (by omega) _ h6, c7,
    (hk.only how hRo).mono (fun b h => .inl h), (hd.only how hRo).mono (fun b h => .inl h), (hr.only how hRo).mono (fun b h => .inl h), ?_⟩, hrm⟩
  obtain ⟨hx, ⟨hn0, hn1⟩ | ⟨g, cap, cur, hg, hbg, hgc, hle, hmx, rest⟩⟩ := id hown
  · omega
  · rcases owns_row hown with ⟨_, h0', _⟩ | ⟨g', cap', hg', hb', hlt', hrow'⟩
    · omega
    · rw [hg] at hg'
      simp only [Value.slice.injEq, Option.some.injEq, Addr.mk.injEq, and_true, true_and] at hg'
      obtain ⟨rfl, rfl⟩ := hg'
      refine .inr ⟨g, 0, cap, by rw [hil]; exact hg, by rw [hil]; exact hle, by simpa [maxLen] using hmx, .inr ⟨by omega, by omega⟩, ?_⟩
      exact (hrow'.only ho (by omega)).code

end Go.Proofs.Ytpkkjgcpmnoalaa
