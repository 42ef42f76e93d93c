import Derived.Test.YtndlmgocldckfaaGreatG12
import Derived.Deep.RegionWith
namespace Go.Proofs.YtndlmgocldckfaaGreat
open Go.RowKit
set_option linter.unusedVariables false
set_option linter.unusedSimpArgs false
set_option maxRecDepth 100000
set_option maxHeartbeats 4000000
theorem Tryz.info129 : (Tryz.prog.info? 143).map (fun i => (i.zero, i.size, i.bytes)) = some (some (.agg #[.int .i64 0, .int .i64 0, .int .i64 0, .int .i64 0]), 4, 32) := by kernel_rfl
theorem ahead_any (a b : Ev) (w : World) :
  Calls Tryz.prog 115 #[.agg #[.int .i64 a.time, .int .i64 a.number, .int .i64 a.kind, .int .i64 a.entity], .agg #[.int .i64 b.time, .int .i64 b.number, .int .i64 b.kind, .int .i64 b.entity]] w
   fun e w' => e = .returned (.bool (aheadF a b)) ∧ Below w.heap.size w w' := by
 by_cases h1 : a.time < b.time
 ·have h1' : decide (a.time < b.time) = true := by simpa using h1
  go_enter Tryz.func115, Tryz.ntmps115
  go_wp2
  go_ret
  exact ⟨by simp [aheadF, h1], ((Below.refl _ _).alloc (Nat.le_refl _) _).alloc (by simp) _⟩
 ·have h1' : decide (a.time < b.time) = false := by simpa using h1
  by_cases h2 : a.time = b.time
  ·have h2' : (a.time == b.time) = true := by simpa using h2
   have H2 := hide h2
   clear h2 h1
   go_enter Tryz.func115, Tryz.ntmps115
   go_wp2
   go_ret
   exact ⟨by simp [aheadF, H2.out], ((Below.refl _ _).alloc (Nat.le_refl _) _).alloc (by simp) _⟩
  ·have h2' : (a.time == b.time) = false := by simpa using h2
   go_enter Tryz.func115, Tryz.ntmps115
   go_wp2
   go_ret
   exact ⟨by simp [aheadF, h1, h2], ((Below.refl _ _).alloc (Nat.le_refl _) _).alloc (by simp) _⟩
theorem CodeAt.take {w : World} {b off : Nat} {l : List Ins} (h : CodeAt w b off l) (k : Nat) : CodeAt w b off (l.take k) := by
 intro i x hx
 rw [List.getElem?_take] at hx
 split at hx
 ·exact h i x hx
 ·simp at hx
theorem CodeAt.drop {w : World} {b off : Nat} {l : List Ins} (h : CodeAt w b off l) (k : Nat) : CodeAt w b (off + k * 4) (l.drop k) := by
 intro i x hx
 rw [List.getElem?_drop] at hx
 obtain ⟨h0, h1, h2, h3⟩ := h (k + i) x hx
 refine ⟨?_, ?_, ?_, ?_⟩
 ·rw [← h0]; congr 2; omega
 ·rw [← h1]; congr 2; omega
 ·rw [← h2]; congr 2; omega
 ·rw [← h3]; congr 2; omega
def PlanMore (w w' : World) (rb : Nat) (next : Int) (q : List Ev) : Prop :=
 (∀ i v, i ≠ 5 → i ≠ 7 → w.cell? ⟨rb, i, none⟩ = some v → w'.cell? ⟨rb, i, none⟩ = some v) ∧ w'.cell? ⟨rb, 5, none⟩ = some (.int .i64 (next + 1)) ∧ (∃ qv, w'.cell? ⟨rb, 7, none⟩ = some qv ∧ EvsIn (fun b => w.heap.size ≤ b ∧ b < w'.heap.size) w' qv q) ∧ Room w' rb 8
theorem rplan_end {R : Nat → Prop} {rb : Nat} {ents : Int} {ks : List (List Ins)} {draws : List Int} {taken clock next : Int} {regs : List Int} {q : List Ev} {time kind ent : Int} {w w3 w6 : World} {e : Ev} {k : Nat} {sa3 : Option Addr} {sc3 n : Nat}
  (hP : RefK R w rb ents ks draws taken clock next regs q) (hbk : rb < w.heap.size) (hR : ∀ b, R b → b < w.heap.size ∧ b ≠ rb) (hb : Below w.heap.size w w6) (he : e = ⟨time, next, kind, ent⟩) (hp : posF e q = k) (hkl : k ≤ q.length) (hn : n = q.length + 1)
  (hown : w6.ownsRow w3.heap.size 143 4 (.slice sa3 n sc3) n (flat ((q.map evIns).take k ++ [Ins.mk time next kind ent]) ++ flat ((q.map evIns).drop k))) (hz3 : w.heap.size < w3.heap.size) (hz6 : w3.heap.size ≤ w6.heap.size) :
  Ending.returned (.int .i64 next) = Ending.returned (.int .i64 next) ∧ Only (· = rb) w ((w6.setCell ⟨rb, 7, none⟩ (.slice sa3 n sc3)).setCell ⟨rb, 5, none⟩ (.int .i64 (next + 1))) ∧
   RefK (fun b => R b ∨ (w.heap.size ≤ b ∧ b < ((w6.setCell ⟨rb, 7, none⟩ (.slice sa3 n sc3)).setCell ⟨rb, 5, none⟩ (.int .i64 (next + 1))).heap.size)) ((w6.setCell ⟨rb, 7, none⟩ (.slice sa3 n sc3)).setCell ⟨rb, 5, none⟩ (.int .i64 (next + 1))) rb ents ks draws taken clock (next + 1) regs (insF ⟨time, next, kind, ent⟩ q) ∧ PlanMore w ((w6.setCell ⟨rb, 7, none⟩ (.slice sa3 n sc3)).setCell ⟨rb, 5, none⟩ (.int .i64 (next + 1))) rb next (insF ⟨time, next, kind, ent⟩ q) := by
 obtain ⟨W, hW⟩ : ∃ W, W = (w6.setCell ⟨rb, 7, none⟩ (.slice sa3 n sc3)).setCell ⟨rb, 5, none⟩ (.int .i64 (next + 1)) := ⟨_, rfl⟩
 have ho : Only (· = rb) w6 W := by rw [hW]; exact Only.setCell (S := (· = rb)) (Only.setCell (S := (· = rb)) (Only.refl _ _) rfl _) rfl _
 have how : Only (· = rb) w W := (Only.new hb).trans ho
 have hsz : W.heap.size = w6.heap.size := by rw [hW]; simp [World.setCell]
 have hRo : ∀ b, R b → ¬ b = rb := fun b hb => (hR b hb).2
 have hrm : Room W rb 8 := by rw [hW]; obtain ⟨_, hroom⟩ := hP; exact ((hroom.below hb hbk).setCell _ _).setCell _ _
 obtain ⟨⟨kv, dv, rv, qv, h0, h1, h2, h3, h4, h5, h6, h7, hk, hd, hr, hq⟩, hroom⟩ := hP
 have keep : ∀ i, i ≠ 5 → i ≠ 7 → ∀ v, w.cell? ⟨rb, i, none⟩ = some v → W.cell? ⟨rb, i, none⟩ = some v := by
  intro i h5 h7 v hv
  rw [hW, World.cell?_setCell_other _ _ _ _ (by simp; try omega), World.cell?_setCell_other _ _ _ _ (by simp; try omega)]
  exact below_at hb hv hbk
 have hz := hb.size
 have c5 : W.cell? ⟨rb, 5, none⟩ = some (.int .i64 (next + 1)) := by
  rw [hW]
  exact World.cell?_setCell_same' _ _ _ (((hroom.below hb hbk).setCell _ _) 5 (by omega)).1
 have c7 : W.cell? ⟨rb, 7, none⟩ = some (.slice sa3 n sc3) := by
  rw [hW, World.cell?_setCell_other _ _ _ _ (by simp)]
  exact World.cell?_setCell_same' _ _ _ ((hroom.below hb hbk) 7 (by omega)).1
 have hins : flat ((q.map evIns).take k ++ [Ins.mk time next kind ent]) ++ flat ((q.map evIns).drop k) = flat ((insF ⟨time, next, kind, ent⟩ q).map evIns) := by
  rw [insF, ← he, hp, he]
  simp [flat, evIns, List.map_take, List.map_drop]
 rw [hins] at hown
 have hil : (insF ⟨time, next, kind, ent⟩ q).length = n := by rw [insF_length, hn]
 rw [← hW]
 have hev : EvsIn (fun b => w.heap.size ≤ b ∧ b < W.heap.size) W (.slice sa3 n sc3) (insF ⟨time, next, kind, ent⟩ q) := by
  obtain ⟨hx, ⟨hn0, hn1⟩ | ⟨g, cap, cur, hg, hbg, hgc, hle, hmx, rest⟩⟩ := id hown
  ·omega
  ·rcases owns_row hown with ⟨_, h0', _⟩ | ⟨g', cap', hg', hb', hlt', hrow'⟩
   ·omega
   ·rw [hg] at hg'
    simp only [Value.slice.injEq, Option.some.injEq, Addr.mk.injEq, and_true, true_and] at hg'
    obtain ⟨rfl, rfl⟩ := hg'
    refine .inr ⟨g, 0, cap, by rw [hil]; exact hg, by rw [hil]; exact hle, by simpa [maxLen] using hmx, ⟨by omega, by omega⟩, ?_⟩
    exact (hrow'.only ho (by omega)).code
 refine ⟨rfl, how, ⟨⟨kv, dv, rv, .slice sa3 n sc3, keep 0 (by omega) (by omega) _ h0, keep 1 (by omega) (by omega) _ h1, keep 2 (by omega) (by omega) _ h2, keep 3 (by omega) (by omega) _ h3, keep 4 (by omega) (by omega) _ h4, c5, keep 6 (by omega) (by omega) _ h6, c7,
  (hk.only how hRo).mono (fun b h => .inl h), (hd.only how hRo).mono (fun b h => .inl h), (hr.only how hRo).mono (fun b h => .inl h), hev.mono (fun b h => .inr h)⟩, hrm⟩, ⟨fun i v h5 h7 => keep i h5 h7 v, c5, ⟨_, c7, hev⟩, hrm⟩⟩
theorem rplan_nil {R : Nat → Prop} (rb : Nat) (ents : Int) (ks : List (List Ins)) (draws : List Int) (taken clock next : Int) (regs : List Int) (time kind ent : Int) (w : World) (h : RefK R w rb ents ks draws taken clock next regs [])
  (hR : ∀ b, R b → b < w.heap.size ∧ b ≠ rb) (hv7 : w.cell? ⟨rb, 7, none⟩ = some (.slice none 0 0)) (hn0 : 0 ≤ next) (hn1 : next < 1000000000) :
  Calls Tryz.prog 88 #[.pointer (some ⟨rb, 0, none⟩), .int .i64 time, .int .i64 kind, .int .i64 ent] w fun e w' => e = .returned (.int .i64 next) ∧ Only (· = rb) w w' ∧
   RefK (fun b => R b ∨ (w.heap.size ≤ b ∧ b < w'.heap.size)) w' rb ents ks draws taken clock (next + 1) regs (insF ⟨time, next, kind, ent⟩ []) ∧ PlanMore w w' rb next (insF ⟨time, next, kind, ent⟩ []) := by
 have hP := hide h
 obtain ⟨⟨kv, dv, rv, qv, h0, h1, h2, h3, h4, h5, h6, h7, hk, hd, hr, hq⟩, hroom⟩ := h
 have hqv : qv = .slice none 0 0 := by rw [h7] at hv7; exact Option.some.inj hv7
 subst hqv
 have hq16 : ([] : List Ev).length < 16 := by decide
 have hbk := lt_of_cell h0
 have Hk := hide hk
 have Hd := hide hd
 have Hr := hide hr
 clear h0 h1 h2 h3 h4 h6 hk hd hr hq
 obtain ⟨e, he⟩ : ∃ e : Ev, e = ⟨time, next, kind, ent⟩ := ⟨_, rfl⟩
 have HE := hide he
 clear he
 go_enter Tryz.func88, Tryz.ntmps88
 go_wp2
 go_loopw [10] (fun i wr => i = .int .i64 0 ∧ Below (w.heap.size + 1) (w.alloc (.cells #[.int .i64 time, .int .i64 next, .int .i64 kind, .int .i64 ent] 143)) wr) (fun _ _ => 0)
 case atStart => exact ⟨rfl, Below.refl _ _⟩
 case round =>
  obtain ⟨rfl, hbel⟩ := hrel
  have hzr := hbel.size
  rw [World.size_alloc] at hzr
  have hb0 := (Below.refl w.heap.size w).alloc (Nat.le_refl _) (.cells #[.int .i64 time, .int .i64 next, .int .i64 kind, .int .i64 ent] 143)
  have hbw : Below w.heap.size w wr := hb0.trans (hbel.mono (by omega))
  have g7 := below_at hbw h7 hbk
  have e0 : wr.cell? ⟨w.heap.size, 0, none⟩ = some (.int .i64 time) := below_at hbel (by simp [go_sem]) (by omega)
  have e1 : wr.cell? ⟨w.heap.size, 1, none⟩ = some (.int .i64 next) := below_at hbel (by simp [go_sem]) (by omega)
  have e2 : wr.cell? ⟨w.heap.size, 2, none⟩ = some (.int .i64 kind) := below_at hbel (by simp [go_sem]) (by omega)
  have e3 : wr.cell? ⟨w.heap.size, 3, none⟩ = some (.int .i64 ent) := below_at hbel (by simp [go_sem]) (by omega)
  have e5 := below_at hbw h5 hbk
  go_wp2
  go_quiet (fail)
  have hb4 : Below wr.heap.size wr (wr.drewN nq) := below_drewN (Below.refl _ _) nq
  generalize wr.drewN nq = w3 at hb4 ⊢
  have hb5 : Below w.heap.size w w3 := hbw.trans (hb4.mono (by omega))
  have hz3 : w.heap.size < w3.heap.size := by have := hb4.size; omega
  have f7 := below_at hb5 h7 hbk
  have f5 := below_at hb5 h5 hbk
  have f0 := below_at hb4 e0 (by omega)
  have f1 := below_at hb4 e1 (by omega)
  have f2 := below_at hb4 e2 (by omega)
  have f3 := below_at hb4 e3 (by omega)
  clear e0 e1 e2 e3 e5 g7 h5 h7
  go_wp2_with (at_builtin; refine wpList_append_src rfl (.tmp 40) (.tmp 46) 115 rfl w3.heap.size 143 (.agg #[.int .i64 0, .int .i64 0, .int .i64 0, .int .i64 0]) 4 32 Tryz.underlying115 Tryz.info129 rfl (by omega) _ 0 [] rfl (World.ownsRow_nil _ _ _ _) _ 0 [] rfl ?_ rfl (by simp) (by omega) (by omega) (Nat.le_refl _) ?_)
  ·exact .inl ⟨rfl, rfl, rfl⟩
  intro v1 w4 hown1 hgr1 hwh1
  obtain ⟨sa1, sc1, rfl⟩ := owns_form hown1.out
  have hb6 : Below w3.heap.size w3 w4 := (Below.refl _ _).grown hgr1.out (Nat.le_refl _) (by intro k hk; simp [Value.ownBlock] at hk)
  have hz4 := hb6.size
  have f7 := below_at hb6 f7 (by omega)
  have f5 := below_at hb6 f5 (by omega)
  have f0 := below_at hb6 f0 (by omega)
  have f1 := below_at hb6 f1 (by omega)
  have f2 := below_at hb6 f2 (by omega)
  have f3 := below_at hb6 f3 (by omega)
  try simp only [Nat.zero_add, List.nil_append] at hown1
  go_wp2_with (at_builtin; refine wpList_append_src rfl (.tmp 48) (.tmp 50) 115 rfl w3.heap.size 143 (.agg #[.int .i64 0, .int .i64 0, .int .i64 0, .int .i64 0]) 4 32 Tryz.underlying115 Tryz.info129 rfl (by omega) _ 0 [] rfl (hown1.out.alloc _) _ 1 (flat [Ins.mk time next kind ent]) rfl (.inr (.inl ⟨w4.heap.size, 0, _, rfl, ?_⟩)) rfl (flat_one _) (by omega) (by omega) (by simp; omega) ?_)
  ·intro j u hu
   have hj : j < 4 := by have := (List.getElem?_eq_some_iff.1 hu).1; simpa [flat, cells4] using this
   have : j = 0 ∨ j = 1 ∨ j = 2 ∨ j = 3 := by omega
   rcases this with rfl | rfl | rfl | rfl <;> simp [flat, cells4] at hu <;> subst hu <;> simp [go_sem]
  intro v2 w5 hown2 hgr2 hwh2
  obtain ⟨sa2, sc2, rfl⟩ := owns_form hown2.out
  have hb7 : Below w3.heap.size w4 w5 := ((Below.refl _ _).alloc (by omega) _).grown hgr2.out (by simp; omega) (fun b hb => (hown1.out.lt b hb).1)
  have hz5 := hb7.size
  have f7 := below_at hb7 f7 (by omega)
  have f5 := below_at hb7 f5 (by omega)
  have f1 := below_at hb7 f1 (by omega)
  have hb37 : Below w3.heap.size w3 w5 := hb6.trans hb7
  have z7 : w5.frozen? ⟨rb, 7, none⟩ = false := ((hroom.below (hb5.trans (hb37.mono (by omega))) hbk) 7 (by omega)).2
  have z5 : w5.frozen? ⟨rb, 5, none⟩ = false := ((hroom.below (hb5.trans (hb37.mono (by omega))) hbk) 5 (by omega)).2
  clear f0 f2 f3
  try simp only [Nat.zero_add, List.nil_append] at hown2
  go_wp2_with (at_builtin; refine wpList_append_src rfl (.tmp 53) (.tmp 59) 115 rfl w3.heap.size 143 (.agg #[.int .i64 0, .int .i64 0, .int .i64 0, .int .i64 0]) 4 32 Tryz.underlying115 Tryz.info129 rfl (by omega) _ 1 (flat [Ins.mk time next kind ent]) rfl hown2.out _ 0 [] rfl ?_ rfl (by simp) (by omega) (by omega) (by omega) ?_)
  ·exact .inl ⟨rfl, rfl, rfl⟩
  intro v3 w6 hown3 hgr3 hwh3
  obtain ⟨sa3, sc3, rfl⟩ := owns_form hown3.out
  have hb8 : Below w3.heap.size w5 w6 := (Below.refl _ _).grown hgr3.out (by omega) (fun b hb => (hown2.out.lt b hb).1)
  have hz6 := hb8.size
  have f7 := below_at hb8 f7 (by omega)
  have f5 := below_at hb8 f5 (by omega)
  have f1 := below_at hb8 f1 (by omega)
  have z7 : w6.frozen? ⟨rb, 7, none⟩ = false := (hb8.frozen (p := ⟨rb, 7, none⟩) (by show rb < _; omega)).trans z7
  have z5 : w6.frozen? ⟨rb, 5, none⟩ = false := (hb8.frozen (p := ⟨rb, 5, none⟩) (by show rb < _; omega)).trans z5
  have hrb : rb ≠ w.heap.size := by omega
  go_wp2
  go_ret
  exact rplan_end hP.out hbk hR (hb5.trans ((hb37.trans hb8).mono (by omega))) HE.out (k := 0) rfl (Nat.le_refl _) rfl (by simpa [flat] using hown3.out) (by omega) (by omega)
end Go.Proofs.YtndlmgocldckfaaGreat
