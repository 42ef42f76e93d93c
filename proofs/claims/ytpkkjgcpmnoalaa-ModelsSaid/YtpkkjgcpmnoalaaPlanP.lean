import Derived.Test.YtpkkjgcpmnoalaaQNew
import Derived.Test.YtpkkjgcpmnoalaaLeafQ
import Derived.MapFrom
import Derived.WideLaws
import Derived.RegionTactic
import Derived.BigQuiet
import Derived.Deep.QuietTactic
namespace Go.Proofs.Ytpkkjgcpmnoalaa
open Go.RowKit
set_option linter.unusedVariables false
set_option linter.unusedSimpArgs false

def withMap (w : World) (r : Nat) (es : Array MapEntry) (clock : Nat) : World := { w with heap := w.heap.setIfInBounds r (.map es clock) }

theorem findNow_none (key : Int) : ∀ (l : List MapEntry) (i : Nat), (∀ e ∈ l, ∃ k : Int, e.key = .int .i64 k ∧ k ≠ key) → Instr.findNow (.int .i64) (.int .i64 key) l i = some none
  | [], _, _ => rfl
  | e :: l, i, h => by
    obtain ⟨k, hk, hne⟩ := h e (by simp)
    have : (key == k) = false := by simp; exact Ne.symm hne
    simp [Instr.findNow, Instr.sameNow, hk, this, findNow_none key l (i + 1) (fun e he => h e (by simp [he]))]

theorem run_mapPush (W : World) (mb : Nat) (es : Array MapEntry) (clock : Nat) (key : Int) (val : Value) (hb : W.heap[mb]? = some (.map es clock)) (hk : ∀ e ∈ es.toList, ∃ k : Int, e.key = .int .i64 k ∧ k ≠ key) :
    (Instr.mapUpdate 137 (.map (some mb)) (.int .i64 key) val).run Try.prog W = .ok () (withMap W mb (es.push { key := .int .i64 key, val := val, born := clock }) (clock + 1)) := by
  have hf := findNow_none key es.toList 0 hk
  simp [Instr.mapUpdate, run_underlying Try.underlying137, MapKept.run_getObj_map hb, MapKept.run_checkKey Try.underlying3 (show MapKept.IsKey (.int .i64) (.int .i64 key) from rfl), MapKept.run_findKey Try.underlying3 hf, MapKept.run_setObj_map _ hb, Result.andThen, withMap]

theorem only_withMap {W : World} {mb : Nat} {es : Array MapEntry} {clock : Nat} : Only (· = mb) W (withMap W mb es clock) :=
  ⟨rfl, rfl, rfl, by simp [withMap], fun k hk hn => by simp [withMap]; exact Array.getElem?_setIfInBounds_ne (Ne.symm hn)⟩

set_option maxHeartbeats 400000 in
theorem qPut_any (qb mb : Nat) (es : Array MapEntry) (clock : Nat) (num time kind ent : Int) (w : World) (hq : w.cell? ⟨qb, 0, none⟩ = some (.map (some mb))) (hm : w.heap[mb]? = some (.map es clock)) (hk : ∀ e ∈ es.toList, ∃ k : Int, e.key = .int .i64 k ∧ k ≠ num) :
    Calls Try.prog 88 #[.pointer (some ⟨qb, 0, none⟩), .agg #[.int .i64 num, .int .i64 time, .int .i64 kind, .int .i64 ent]] w
      fun e w' => e = .returned (.tuple #[]) ∧ Only (· = mb) w w' ∧ ∃ en, w'.heap[mb]? = some (.map (es.push en) (clock + 1)) ∧ en.key = .int .i64 num := by
  have hmb : mb < w.heap.size := (Array.getElem?_eq_some_iff.1 hm).1
  have hqb := lt_of_cell hq
  have hrun := run_mapPush ((w.alloc (.cells #[.int .i64 num, .int .i64 time, .int .i64 kind, .int .i64 ent] 143)).drew) mb es clock num (.agg #[.int .i64 num, .int .i64 time, .int .i64 kind, .int .i64 ent]) ((Below.heap_alloc _ _ _ hmb).trans hm) hk
  have Hm := hide hm
  clear hm hk
  go_enter Try.func88, Try.ntmps88
  go_wp2
  go_region
  go_end0
  have hH := MapKept.heap_set (w := (w.alloc (.cells #[.int .i64 num, .int .i64 time, .int .i64 kind, .int .i64 ent] 143)).drew) (o' := .map (es.push { key := .int .i64 num, val := .agg #[.int .i64 num, .int .i64 time, .int .i64 kind, .int .i64 ent], born := clock }) (clock + 1)) ((Below.heap_alloc _ _ _ hmb).trans Hm.out)
  exact ⟨rfl, (Only.new (((Below.refl _ _).alloc (Nat.le_refl _) _).drew)).trans only_withMap, _, hH.1, rfl⟩

set_option maxRecDepth 100000 in
set_option maxHeartbeats 400000 in
theorem qLen_any (qb mb : Nat) (es : Array MapEntry) (clock : Nat) (w : World) (hq : w.cell? ⟨qb, 0, none⟩ = some (.map (some mb))) (hm : w.heap[mb]? = some (.map es clock)) :
    Calls Try.prog 78 #[.pointer (some ⟨qb, 0, none⟩)] w fun e w' => e = .returned (.int .i64 es.size) ∧ w' = w := by
  have hrun : (Builtin.len_ #[137] 3 #[.map (some mb)]).run Try.prog w = .ok (.int .i64 es.size) w := by
    simp [Builtin.len_, run_underlying Try.underlying137, MapKept.run_getObj_map hm, goInt]
  go_enter Try.func78, Try.ntmps78
  go_wp2
  go_ret
  exact ⟨rfl, rfl⟩

set_option maxHeartbeats 400000 in
theorem qFull_any (qb mb : Nat) (es : Array MapEntry) (clock : Nat) (w : World) (hq : w.cell? ⟨qb, 0, none⟩ = some (.map (some mb))) (hm : w.heap[mb]? = some (.map es clock)) :
    Calls Try.prog 87 #[.pointer (some ⟨qb, 0, none⟩)] w fun e w' => e = .returned (.bool (decide (16 ≤ (es.size : Int)))) ∧ w' = w := by
  go_enter Try.func87, Try.ntmps87
  go_wp2_with (go_at_call 78; refine (qLen_any qb mb es clock _ hq hm).mono ?_; rintro e w' ⟨rfl, rfl⟩)
  go_ret
  exact ⟨rfl, rfl⟩

set_option maxHeartbeats 400000 in
theorem hasRoom_any {R : Nat → Prop} (kb mb : Nat) (ents : Int) (ks : List (List Ins)) (draws : List Int) (n : Nat) (w : World) (h : ProgK R w kb mb ents ks draws n) (hn : n ≤ 16) :
    Calls Try.prog 72 #[.pointer (some ⟨kb, 0, none⟩)] w fun e w' => e = .returned (.bool (decide (n < 16))) ∧ w' = w := by
  obtain ⟨⟨kv, dv, qb, h0, h1, h2, h3, h4, h5, h6, h7, h8, h9⟩, hr, hnx, ht, ⟨es, clock, hm, hes, hkeys⟩, hne⟩ := h
  have hlt : decide ((n : Int) + 1 < 1000000000) = true := by simp; omega
  subst hes
  by_cases h16 : es.size < 16
  · have hd : decide (16 ≤ (es.size : Int)) = false := by simp; omega
    go_enter Try.func72, Try.ntmps72
    go_wp2_with (go_at_call 87; refine (qFull_any qb mb es clock _ h9 hm).mono ?_; rintro e w' ⟨rfl, rfl⟩)
    go_ret
    exact ⟨by simp [h16], rfl⟩
  · have hd : decide (16 ≤ (es.size : Int)) = true := by simp; omega
    go_enter Try.func72, Try.ntmps72
    go_wp2_with (go_at_call 87; refine (qFull_any qb mb es clock _ h9 hm).mono ?_; rintro e w' ⟨rfl, rfl⟩)
    go_ret
    exact ⟨by simp [h16], rfl⟩

theorem ProgK.only {R S : Nat → Prop} {w w' : World} {kb mb : Nat} {ents : Int} {ks : List (List Ins)} {draws : List Int} {n : Nat} (h : ProgK R w kb mb ents ks draws n) (ho : Only S w w') (hR : ∀ b, R b → ¬ S b) (hk : ¬ S kb) (hm : ¬ S mb) : ProgK R w' kb mb ents ks draws n := by
  obtain ⟨⟨kv, dv, qb, h0, h1, h2, h3, h4, h5, h6, h7, h8, h9⟩, hr, hnx, ht, ⟨es, clock, hm', hes, hkeys⟩, hne⟩ := h
  refine ⟨⟨kv, dv, qb, ho.at h0 hk, ho.at h1 hk, ho.at h2 hk, ho.at h3 hk, ho.at h4 hk, ho.at h5 hk, h6.only ho hR, h7.only ho hR, h8, ho.at h9 (hR qb h8)⟩, fun j hj => ho.at (hr j hj) hk, ho.at hnx hk, ?_, ⟨es, clock, ?_, hes, hkeys⟩, hne⟩
  · rw [World.frozen?_of_block (w := w) (a := ⟨kb, 38, none⟩) (ho.block kb (lt_of_cell h0) hk)]; exact ht
  · rw [ho.block mb (Array.getElem?_eq_some_iff.1 hm').1 hm]; exact hm'

set_option maxHeartbeats 400000 in
theorem put_any {R : Nat → Prop} (kb mb : Nat) (ents : Int) (ks : List (List Ins)) (draws : List Int) (n : Nat) (time kind ent : Int) (w : World) (h : ProgK R w kb mb ents ks draws n) (hn : n < 16) (hR : ∀ b, R b → b ≠ kb ∧ b ≠ mb) :
    Calls Try.prog 73 #[.pointer (some ⟨kb, 0, none⟩), .int .i64 time, .int .i64 kind, .int .i64 ent] w fun e w' => e = .returned (.int .i64 (n + 1)) ∧ Only (fun b => b = kb ∨ b = mb) w w' ∧ ProgK R w' kb mb ents ks draws (n + 1) := by
  have hP := hide h
  obtain ⟨⟨kv, dv, qb, h0, h1, h2, h3, h4, h5, h6, h7, h8, h9⟩, hr, hnx, ht, ⟨es, clock, hm, hes, hkeys⟩, hne⟩ := h
  have Hes := hide hes
  have hkey : ∀ e ∈ es.toList, ∃ k : Int, e.key = .int .i64 k ∧ k ≠ (n : Int) + 1 := by
    intro e he
    rw [Array.mem_toList_iff, Array.mem_iff_getElem?] at he
    obtain ⟨i, hi⟩ := he
    obtain ⟨k, hk, hkn⟩ := hkeys i e hi
    exact ⟨k, hk, by omega⟩
  clear hes
  have hbk := lt_of_cell h0
  go_enter Try.func73, Try.ntmps73
  go_wp2_with (go_at_call 88; refine (qPut_any qb mb es clock _ _ _ _ _ h9 hm hkey).mono ?_; rintro e w1 ⟨rfl, ho1, en, hm1, hen⟩; have g0 := ho1.at hnx (fun e => hne e); have g1 := (World.frozen?_of_block (w := w) (a := ⟨kb, 38, none⟩) (ho1.block kb hbk (fun e => hne e))).trans ht)
  go_ret
  have ho2 : Only (fun b => b = kb ∨ b = mb) w1 (w1.setCell ⟨kb, 38, none⟩ (.int .i64 (n + 1 + 1))) := Only.setCell (S := fun b => b = kb ∨ b = mb) (Only.refl _ _) (.inl rfl) _
  have ho12 := (ho1.mono (S' := fun b => b = kb ∨ b = mb) (fun k _ hk => .inr hk)).trans ho2
  have hkk : ∀ i, i ≠ 38 → ∀ v, w.cell? ⟨kb, i, none⟩ = some v → (w1.setCell ⟨kb, 38, none⟩ (.int .i64 (n + 1 + 1))).cell? ⟨kb, i, none⟩ = some v := by
    intro i hi v hv
    rw [World.cell?_setCell_other _ _ _ _ (by simp; try omega)]; exact ho1.at hv (fun e => hne e)
  refine ⟨by simp, ho12, ⟨kv, dv, qb, hkk 0 (by omega) _ h0, hkk 1 (by omega) _ h1, hkk 2 (by omega) _ h2, hkk 3 (by omega) _ h3, hkk 4 (by omega) _ h4, hkk 37 (by omega) _ h5, h6.only ho12 ?_, h7.only ho12 ?_, h8, ho12.at h9 ?_⟩, fun j hj => hkk (5 + j) (by omega) _ (hr j hj), ?_, ?_, ⟨es.push en, clock + 1, ?_, ?_, ?_⟩, hne⟩
  · intro b hb; have := hR b hb; omega
  · intro b hb; have := hR b hb; omega
  · have := hR qb h8; omega
  · exact World.cell?_setCell_same' _ _ _ (by rw [g0]; rfl)
  · rw [World.frozen?_setCell]; exact g1
  · rw [Below.heap_setCell _ _ _ _ (by exact Ne.symm hne)]; exact hm1
  · simp [Hes.out]
  · intro i e he
    rw [Array.getElem?_push] at he
    split at he
    · cases he; exact ⟨n + 1, by rw [hen]; simp, Nat.le_refl _⟩
    · obtain ⟨k, hk, hkn⟩ := hkeys i e he
      exact ⟨k, hk, by omega⟩

/-- What Plan answers: the number (0 beside an error) and the error. -/
def planE (ents : Int) (nk n : Nat) (time kind ent : Int) : Int := if (inB time 0 1000000000000 && inB kind 0 (nk - 1)) && inB ent 0 (ents - 1) then (if n < 16 then 0 else 3) else 1

set_option maxRecDepth 100000 in
set_option maxHeartbeats 1000000 in
theorem tPlan_arg {R : Nat → Prop} (kb mb : Nat) (ents : Int) (ks : List (List Ins)) (draws : List Int) (n : Nat) (time kind ent : Int) (w : World) (h : ProgK R w kb mb ents ks draws n) (he : 1 ≤ ents) (he' : ents ≤ 8) (hk : ks.length ≤ 8)
    (hno : ((inB time 0 1000000000000 && inB kind 0 (ks.length - 1)) && inB ent 0 (ents - 1)) = false) :
    Calls Try.prog 40 #[.pointer (some ⟨kb, 0, none⟩), .int .i64 time, .int .i64 kind, .int .i64 ent] w fun e w' => e = .returned (.tuple #[.int .i64 0, .int .i64 1]) ∧ Below w.heap.size w w' := by
  obtain ⟨⟨kv, dv, qb, h0, h1, h2, h3, h4, h5, h6, h7, h8, h9⟩, hr, hnx, ht, hmap, hne⟩ := h
  obtain ⟨ka, kc, rfl⟩ := h6.form
  have hbk := lt_of_cell h0
  clear hr hnx ht hmap h5 h9
  by_cases t1 : time < 0
  · have t1' : decide (time < 0) = true := by simpa using t1
    go_enter Try.func40, Try.ntmps40
    go_wp2
    go_ret2
    exact ⟨rfl, Below.refl _ _⟩
  have t1' : decide (time < 0) = false := by simpa using t1
  by_cases t2 : 1000000000000 < time
  · have t2' : decide (1000000000000 < time) = true := by simpa using t2
    go_enter Try.func40, Try.ntmps40
    go_wp2
    go_ret2
    exact ⟨rfl, Below.refl _ _⟩
  have t2' : decide (1000000000000 < time) = false := by simpa using t2
  have hti : inB time 0 1000000000000 = true := by simp [inB]; omega
  rw [hti] at hno
  rcases hk1 : inB kind 0 (ks.length - 1) with _ | _
  · clear hno
    go_enter Try.func40, Try.ntmps40
    go_wp2_with (go_at_call 70; refine (hasKind_any _ _ _ _ _ _ hk).mono ?_; rintro e w1 ⟨rfl, hb1⟩; rw [hk1])
    go_ret2
    exact ⟨rfl, hb1⟩
  · rw [hk1] at hno
    have hen : inB ent 0 (ents - 1) = false := by simpa using hno
    clear hno
    go_enter Try.func40, Try.ntmps40
    go_wp2_with (first | (go_at_call 70; refine (hasKind_any _ _ _ _ _ _ hk).mono ?_; rintro e w1 ⟨rfl, hb1⟩; rw [hk1]; have g0 := below_at hb1 h0 hbk; have g1 := below_at hb1 h1 hbk) | (go_at_call 71; refine (hasEntity_any _ _ _ _ _ _ he he').mono ?_; rintro e w2 ⟨rfl, hb2⟩; rw [hen]))
    go_ret2
    exact ⟨rfl, hb1.trans (hb2.mono hb1.size)⟩

set_option maxRecDepth 100000 in
set_option maxHeartbeats 1000000 in
theorem tPlan_ok {R : Nat → Prop} (kb mb : Nat) (ents : Int) (ks : List (List Ins)) (draws : List Int) (n : Nat) (time kind ent : Int) (w : World) (h : ProgK R w kb mb ents ks draws n) (he : 1 ≤ ents) (he' : ents ≤ 8) (hk : ks.length ≤ 8) (hn : n ≤ 16) (hR : ∀ b, R b → b < w.heap.size ∧ b ≠ kb ∧ b ≠ mb)
    (hyes : ((inB time 0 1000000000000 && inB kind 0 (ks.length - 1)) && inB ent 0 (ents - 1)) = true) :
    Calls Try.prog 40 #[.pointer (some ⟨kb, 0, none⟩), .int .i64 time, .int .i64 kind, .int .i64 ent] w fun e w' => Only (fun b => b = kb ∨ b = mb) w w' ∧
      ((n < 16 ∧ e = .returned (.tuple #[.int .i64 (n + 1), .int .i64 0]) ∧ ProgK R w' kb mb ents ks draws (n + 1)) ∨ (n = 16 ∧ e = .returned (.tuple #[.int .i64 0, .int .i64 3]) ∧ ProgK R w' kb mb ents ks draws n)) := by
  have hP := hide h
  obtain ⟨⟨kv, dv, qb, h0, h1, h2, h3, h4, h5, h6, h7, h8, h9⟩, hr, hnx, ht, hmap, hne⟩ := h
  obtain ⟨ka, kc, rfl⟩ := h6.form
  have hbk := lt_of_cell h0
  have hmb : mb < w.heap.size := by obtain ⟨es, clock, hm, _⟩ := hmap; exact (Array.getElem?_eq_some_iff.1 hm).1
  clear hr hnx ht hmap h5 h9
  simp only [Bool.and_eq_true] at hyes
  obtain ⟨⟨hti, hk1⟩, hen⟩ := hyes
  have hti' : 0 ≤ time ∧ time ≤ 1000000000000 := by simpa [inB] using hti
  clear hti
  have t1' : decide (time < 0) = false := by simp; omega
  have t2' : decide (1000000000000 < time) = false := by simp; omega
  go_enter Try.func40, Try.ntmps40
  go_wp2_with (first | (go_at_call 70; refine (hasKind_any _ _ _ _ _ _ hk).mono ?_; rintro e w1 ⟨rfl, hb1⟩; rw [hk1]; have g0 := below_at hb1 h0 hbk; have g1 := below_at hb1 h1 hbk) | (go_at_call 71; refine (hasEntity_any _ _ _ _ _ _ he he').mono ?_; rintro e w2 ⟨rfl, hb2⟩; rw [hen]))
  have hb12 := hb1.trans (hb2.mono hb1.size)
  have hP2 : ProgK R w2 kb mb ents ks draws n := hP.out.only (Only.new (S := fun _ => False) hb12) (by simp) (by simp) (by simp)
  refine (hasRoom_any kb mb ents ks draws n _ hP2 hn).mono ?_
  rintro e w3 ⟨rfl, rfl⟩
  by_cases h16 : n < 16
  · rw [show decide (n < 16) = true by simpa using h16]
    go_wp2_with (go_at_call 73; refine (put_any kb mb ents ks draws n _ _ _ _ hP2 h16 (fun b hb => (hR b hb).2)).mono ?_; rintro e w4 ⟨rfl, ho4, hP4⟩)
    go_ret2
    exact ⟨(Only.new hb12).trans ho4, .inl ⟨h16, rfl, hP4⟩⟩
  · rw [show decide (n < 16) = false by simpa using h16]
    go_wp2
    go_ret2
    exact ⟨Only.new hb12, .inr ⟨by omega, rfl, hP2⟩⟩
end Go.Proofs.Ytpkkjgcpmnoalaa
