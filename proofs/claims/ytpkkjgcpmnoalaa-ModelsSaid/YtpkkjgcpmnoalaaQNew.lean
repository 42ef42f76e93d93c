import Derived.Test.YtpkkjgcpmnoalaaDrawP
import Derived.Test.YtpkkjgcpmnoalaaCopyP
import Derived.Test.YtpkkjgcpmnoalaaChkQ
import Derived.Carry
namespace Go.Proofs.Ytpkkjgcpmnoalaa
open Go.RowKit
set_option linter.unusedVariables false
set_option linter.unusedSimpArgs false

set_option maxHeartbeats 400000 in
theorem qNew_any (w : World) : Calls Try.prog 58 #[] w
    fun e w' => e = .returned (.pointer (some ⟨w.heap.size + 1, 0, none⟩)) ∧ w' = (w.alloc (.map #[] 0)).alloc (.cells #[.map (some w.heap.size)] 139) := by
  have hm : ∀ W : World, (Instr.makeMap 137 none).run Try.prog W = .ok (.map (some W.heap.size)) (W.alloc (.map #[] 0)) := fun W => run_makeMap _ W
  go_enter Try.func58, Try.ntmps58
  go_wp2
  go_ret
  exact ⟨rfl, rfl⟩

/-- The program's kernel: nothing has run; n events are planned. -/
structure ProgK (R : Nat → Prop) (w : World) (kb mb : Nat) (ents : Int) (ks : List (List Ins)) (draws : List Int) (n : Nat) : Prop where
  body : ∃ kv dv qb, w.cell? ⟨kb, 0, none⟩ = some (.int .i64 ents) ∧ w.cell? ⟨kb, 1, none⟩ = some kv ∧ w.cell? ⟨kb, 2, none⟩ = some dv ∧ w.cell? ⟨kb, 3, none⟩ = some (.int .i64 0) ∧ w.cell? ⟨kb, 4, none⟩ = some (.int .i64 0) ∧
    w.cell? ⟨kb, 37, none⟩ = some (.pointer (some ⟨qb, 0, none⟩)) ∧ KindsIn R w kv ks ∧ IntsIn R w dv draws ∧ R qb ∧ w.cell? ⟨qb, 0, none⟩ = some (.map (some mb))
  regs : ∀ j, j < 32 → w.cell? ⟨kb, 5 + j, none⟩ = some (.int .i64 0)
  next : w.cell? ⟨kb, 38, none⟩ = some (.int .i64 (n + 1))
  thaw : w.frozen? ⟨kb, 38, none⟩ = false
  map : ∃ es clock, w.heap[mb]? = some (.map es clock) ∧ es.size = n ∧ ∀ (i : Nat) (e : MapEntry), es[i]? = some e → ∃ k : Nat, e.key = .int .i64 k ∧ k ≤ n
  ne : kb ≠ mb

theorem ProgK.mono {R R' : Nat → Prop} {w : World} {kb mb : Nat} {ents : Int} {ks : List (List Ins)} {draws : List Int} {n : Nat} (h : ProgK R w kb mb ents ks draws n) (hR : ∀ b, R b → R' b) : ProgK R' w kb mb ents ks draws n := by
  obtain ⟨⟨kv, dv, qb, h0, h1, h2, h3, h4, h5, h6, h7, h8, h9⟩, hr, hn, ht, hm, hne⟩ := h
  exact ⟨⟨kv, dv, qb, h0, h1, h2, h3, h4, h5, h6.mono hR, h7.mono hR, hR qb h8, h9⟩, hr, hn, ht, hm, hne⟩

theorem progK_new (W : World) (R : Nat → Prop) (T : TypeId) (ents : Int) (kv dv : Value) (qb mb : Nat) (ks : List (List Ins)) (draws : List Int) (hk : KindsIn R W kv ks) (hd : IntsIn R W dv draws) (hq : R qb)
    (hqc : W.cell? ⟨qb, 0, none⟩ = some (.map (some mb))) (hm : W.heap[mb]? = some (.map #[] 0)) (hR : ∀ b, R b → b < W.heap.size) :
    ProgK R (W.alloc (.cells #[.int .i64 ents, kv, dv, .int .i64 0, .int .i64 0, .int .i64 0, .int .i64 0, .int .i64 0, .int .i64 0, .int .i64 0, .int .i64 0, .int .i64 0, .int .i64 0, .int .i64 0, .int .i64 0, .int .i64 0, .int .i64 0, .int .i64 0, .int .i64 0, .int .i64 0, .int .i64 0, .int .i64 0, .int .i64 0, .int .i64 0, .int .i64 0, .int .i64 0, .int .i64 0, .int .i64 0, .int .i64 0, .int .i64 0, .int .i64 0, .int .i64 0, .int .i64 0, .int .i64 0, .int .i64 0, .int .i64 0, .int .i64 0, .pointer (some ⟨qb, 0, none⟩), .int .i64 1] T)) W.heap.size mb ents ks draws 0 := by
  have hb := (Below.refl W.heap.size W).alloc (Nat.le_refl _) (.cells #[.int .i64 ents, kv, dv, .int .i64 0, .int .i64 0, .int .i64 0, .int .i64 0, .int .i64 0, .int .i64 0, .int .i64 0, .int .i64 0, .int .i64 0, .int .i64 0, .int .i64 0, .int .i64 0, .int .i64 0, .int .i64 0, .int .i64 0, .int .i64 0, .int .i64 0, .int .i64 0, .int .i64 0, .int .i64 0, .int .i64 0, .int .i64 0, .int .i64 0, .int .i64 0, .int .i64 0, .int .i64 0, .int .i64 0, .int .i64 0, .int .i64 0, .int .i64 0, .int .i64 0, .int .i64 0, .int .i64 0, .int .i64 0, .pointer (some ⟨qb, 0, none⟩), .int .i64 1] T)
  have hmb : mb < W.heap.size := (Array.getElem?_eq_some_iff.1 hm).1
  have ho := Only.new (S := fun _ => False) hb
  have hat : ∀ i, (W.alloc (.cells #[.int .i64 ents, kv, dv, .int .i64 0, .int .i64 0, .int .i64 0, .int .i64 0, .int .i64 0, .int .i64 0, .int .i64 0, .int .i64 0, .int .i64 0, .int .i64 0, .int .i64 0, .int .i64 0, .int .i64 0, .int .i64 0, .int .i64 0, .int .i64 0, .int .i64 0, .int .i64 0, .int .i64 0, .int .i64 0, .int .i64 0, .int .i64 0, .int .i64 0, .int .i64 0, .int .i64 0, .int .i64 0, .int .i64 0, .int .i64 0, .int .i64 0, .int .i64 0, .int .i64 0, .int .i64 0, .int .i64 0, .int .i64 0, .pointer (some ⟨qb, 0, none⟩), .int .i64 1] T)).cell? ⟨W.heap.size, i, none⟩ = _ := fun i => World.cell?_alloc_at _ _ _ _ rfl
  refine ⟨⟨kv, dv, qb, (hat 0).trans rfl, (hat 1).trans rfl, (hat 2).trans rfl, (hat 3).trans rfl, (hat 4).trans rfl, (hat 37).trans rfl, hk.only ho (by simp), hd.only ho (by simp), hq, below_at hb hqc (hR qb hq)⟩, ?_, (hat 38).trans rfl, World.frozen?_alloc_at _ _ _ _ rfl, ⟨#[], 0, ?_, rfl, by simp⟩, by omega⟩
  · intro j hj
    rw [hat]
    have : j = 0 ∨ j = 1 ∨ j = 2 ∨ j = 3 ∨ j = 4 ∨ j = 5 ∨ j = 6 ∨ j = 7 ∨ j = 8 ∨ j = 9 ∨ j = 10 ∨ j = 11 ∨ j = 12 ∨ j = 13 ∨ j = 14 ∨ j = 15 ∨ j = 16 ∨ j = 17 ∨ j = 18 ∨ j = 19 ∨ j = 20 ∨ j = 21 ∨ j = 22 ∨ j = 23 ∨ j = 24 ∨ j = 25 ∨ j = 26 ∨ j = 27 ∨ j = 28 ∨ j = 29 ∨ j = 30 ∨ j = 31 := by omega
    rcases this with rfl | rfl | rfl | rfl | rfl | rfl | rfl | rfl | rfl | rfl | rfl | rfl | rfl | rfl | rfl | rfl | rfl | rfl | rfl | rfl | rfl | rfl | rfl | rfl | rfl | rfl | rfl | rfl | rfl | rfl | rfl | rfl <;> rfl
  · rw [Below.heap_alloc _ _ _ hmb]; exact hm

set_option maxHeartbeats 400000 in
theorem tNew_model {B : Nat} (ents : Int) (v dv : Value) (ks : List (List Ins)) (w : World) (hv : KindsV w.heap.size w v ks) (p : Nat × Nat) (hk : kindF ents ks = some p) :
    Calls Try.prog 22 #[.agg #[.int .i64 ents, v], dv] w
      fun e w' => e = .returned (.tuple #[.pointer none, .int .i64 2]) ∧ Below w.heap.size w w' := by
  have hV : checkV ents ks = .tuple #[.int .i64 2, .int .i64 p.1, .int .i64 p.2] := by simp [checkV, hk]
  have HV := hide hV
  clear hV hk
  go_enter Try.func22, Try.ntmps22
  go_wp2_with fail
  refine (mCheck_any ents v ks _ ((hv.below ((Below.refl _ _).alloc (Nat.le_refl _) _)).mono (by simp))).mono ?_
  rintro e w1 ⟨rfl, hb1⟩
  rw [HV.out]
  go_wp2
  go_ret2
  exact ⟨rfl, ((Below.refl _ _).alloc (Nat.le_refl _) _).trans (hb1.mono (by simp))⟩

set_option maxHeartbeats 400000 in
theorem tNew_draws (ents : Int) (v dv : Value) (ks : List (List Ins)) (draws : List Int) (w : World) (hv : KindsV w.heap.size w v ks) (hd : IntsIn (· < w.heap.size) w dv draws) (hk : kindF ents ks = none) (hD : drawsF draws = false) :
    Calls Try.prog 22 #[.agg #[.int .i64 ents, v], dv] w
      fun e w' => e = .returned (.tuple #[.pointer none, .int .i64 1]) ∧ Below w.heap.size w w' := by
  have HV : Hid (checkV ents ks = .tuple #[.int .i64 0, .int .i64 0, .int .i64 0]) := by show _ = _; simp [checkV, hk]
  clear hk
  go_enter Try.func22, Try.ntmps22
  go_wp2_with fail
  refine (mCheck_any ents v ks _ ((hv.below ((Below.refl _ _).alloc (Nat.le_refl _) _)).mono (by simp))).mono ?_
  rintro e w1 ⟨rfl, hb1⟩
  rw [HV.out]
  have hb2 : Below w.heap.size w w1 := ((Below.refl _ _).alloc (Nat.le_refl _) _).trans (hb1.mono (by simp))
  go_wp2_with fail
  refine (areDraws_any dv draws _ (hd.only (Only.ofBelow (S := (w.heap.size ≤ ·)) hb2 (fun k h _ => h)) (by intro b hb; omega))).mono ?_
  rintro e w2 ⟨rfl, rfl⟩
  rw [hD]
  go_wp2
  go_ret2
  exact ⟨rfl, hb2⟩

theorem Try.infoI : (Try.prog.info? 3).map (fun i => (i.zero, i.size, i.bytes)) = some (some (.int .i64 0), 1, 8) := by kernel_rfl

theorem IntsIn.src {R : Nat → Prop} {w : World} {v : Value} {l : List Int} (h : IntsIn R w v l) : SrcAt w v l.length (ints l) := by
  obtain ⟨_, ⟨rfl, rfl⟩ | ⟨b, off, cap, rfl, _, hc⟩⟩ := h
  · exact .inl ⟨rfl, rfl, rfl⟩
  · exact .inr (.inl ⟨b, off, cap, rfl, hc⟩)

set_option maxRecDepth 100000 in
set_option maxHeartbeats 1000000 in
theorem tNew_yes (ents : Int) (b off cap : Nat) (dv : Value) (ks : List (List Ins)) (draws : List Int) (w : World) (hl : ks.length ≤ 5864062014805) (hbw : b < w.heap.size) (hK : KindsAt w.heap.size w b off ks) (hd : IntsIn (· < w.heap.size) w dv draws) (hk : kindF ents ks = none) (hD : drawsF draws = true) :
    Calls Try.prog 22 #[.agg #[.int .i64 ents, .slice (some ⟨b, off, none⟩) ks.length cap], dv] w
      fun e w' => ∃ kb mb, e = .returned (.tuple #[.pointer (some ⟨kb, 0, none⟩), .int .i64 0]) ∧ Below w.heap.size w w' ∧ w.heap.size ≤ kb ∧ w.heap.size ≤ mb ∧ kb < w'.heap.size ∧ mb < w'.heap.size ∧
        ProgK (fun b => w.heap.size ≤ b ∧ b < w'.heap.size ∧ b ≠ kb ∧ b ≠ mb) w' kb mb ents ks draws 0 := by
  have HV : Hid (checkV ents ks = .tuple #[.int .i64 0, .int .i64 0, .int .i64 0]) := by show _ = _; simp [checkV, hk]
  clear hk
  go_enter Try.func22, Try.ntmps22
  go_wp2_with fail
  have hv : KindsV w.heap.size w (.slice (some ⟨b, off, none⟩) ks.length cap) ks := ⟨hl, .inr (.inl ⟨b, off, cap, rfl, hbw, hK⟩)⟩
  refine (mCheck_any ents _ ks _ ((hv.below ((Below.refl _ _).alloc (Nat.le_refl _) _)).mono (by simp))).mono ?_
  rintro e w1 ⟨rfl, hb1⟩
  rw [HV.out]
  have hb2 : Below w.heap.size w w1 := ((Below.refl _ _).alloc (Nat.le_refl _) _).trans (hb1.mono (by simp))
  have hm0 : w1.cell? ⟨w.heap.size, 0, none⟩ = some (.int .i64 ents) := below_at hb1 (by simp [go_sem]) (by simp)
  have hm1 : w1.cell? ⟨w.heap.size, 1, none⟩ = some (.slice (some ⟨b, off, none⟩) ks.length cap) := below_at hb1 (by simp [go_sem]) (by simp)
  have hz1 : w.heap.size < w1.heap.size := by have := hb1.size; simp at this; omega
  clear hb1
  go_wp2_with fail
  refine (areDraws_any dv draws _ (hd.only (Only.ofBelow (S := (w.heap.size ≤ ·)) hb2 (fun k h _ => h)) (by intro b hb; omega))).mono ?_
  rintro e w2 ⟨rfl, rfl⟩
  rw [hD]
  go_wp2_with fail
  refine (mCopy_any ents b off cap ks _ hl (by omega) ((hK.below hb2 hbw (Nat.le_refl _)).mono (by omega))).mono ?_
  rintro e w3 ⟨sa, sc, rfl, hb3, hK3⟩
  have hd3 := ((hd.only (Only.ofBelow (S := (w.heap.size ≤ ·)) hb2 (fun k h _ => h)) (by intro b hb; omega)).only (Only.new (S := fun _ => False) hb3) (by simp))
  have Hs := hide hd3.src
  have Hl := hide hd3.1
  go_wp2_with (at_builtin; refine wpList_append_src rfl (.const (.slice none 0 0)) (.tmp 23) 24 rfl w3.heap.size 3 (.int .i64 0) 1 8 Try.underlying24 Try.infoI rfl (by omega) _ 0 [] rfl (World.ownsRow_nil _ _ _ _) dv draws.length (ints draws) rfl Hs.out (by simp [ints]) (ints_one _) (by have := Hl.out; omega) (by have := Hl.out; omega) (by omega) ?_)
  intro v4 w4 hown hgr hnil
  have hb4 : Below w3.heap.size w3 w4 := (Below.refl _ _).grown hgr.out (Nat.le_refl _) (by intro k hk; simp [Value.ownBlock] at hk)
  have hd4 := owns_ints (l := draws) (by simpa using hown.out) hd.1
  obtain ⟨sa4, sc4, rfl⟩ := hd4.form
  go_wp2_with (go_at_call 58; refine (qNew_any _).mono ?_; rintro e w5 ⟨rfl, rfl⟩)
  go_ret2
  obtain ⟨W, hW⟩ : ∃ W, W = (w4.alloc (.map #[] 0)).alloc (.cells #[.map (some w4.heap.size)] 139) := ⟨_, rfl⟩
  have hWs : W.heap.size = w4.heap.size + 1 + 1 := by rw [hW]; simp
  have hWb : Below w4.heap.size w4 W := by rw [hW]; exact ((Below.refl _ _).alloc (Nat.le_refl _) _).alloc (by simp) _
  have hWq : W.cell? ⟨w4.heap.size + 1, 0, none⟩ = some (.map (some w4.heap.size)) := by rw [hW]; simp [go_sem]
  have hWm : W.heap[w4.heap.size]? = some (.map #[] 0) := by
    rw [hW, Below.heap_alloc _ _ _ (by simp)]; exact heap_new _ _
  rw [← hW]
  have hz2 := hb2.size
  have hz3 := hb3.size
  have hz4 := hb4.size
  have hR : ∀ b, (w.heap.size ≤ b ∧ b < w4.heap.size + 1 + 1 ∧ b ≠ w4.heap.size) → b < W.heap.size := by intro b hb; omega
  have hk5 : KindsIn (fun b => w.heap.size ≤ b ∧ b < w4.heap.size + 1 + 1 ∧ b ≠ w4.heap.size) W (.slice sa ks.length sc) ks :=
    ((((hK3.only (Only.new (S := fun _ => False) hb4) (by simp)).mono (R' := fun b => w.heap.size ≤ b ∧ b < w4.heap.size) (by intro b hb; omega)).only (Only.new (S := fun _ => False) hWb) (by simp))).mono (by intro b hb; omega)
  have hd5 : IntsIn (fun b => w.heap.size ≤ b ∧ b < w4.heap.size + 1 + 1 ∧ b ≠ w4.heap.size) W (.slice sa4 draws.length sc4) draws :=
    (hd4.only (Only.new (S := fun _ => False) hWb) (by simp)).mono (by intro b hb; omega)
  have hP := progK_new W (fun b => w.heap.size ≤ b ∧ b < w4.heap.size + 1 + 1 ∧ b ≠ w4.heap.size) 112 ents _ _ (w4.heap.size + 1) w4.heap.size ks draws hk5 hd5 (by omega) hWq hWm hR
  have hB := (Below.refl W.heap.size W).alloc (Nat.le_refl _) (.cells #[.int .i64 ents, .slice sa ks.length sc, .slice sa4 draws.length sc4, .int .i64 0, .int .i64 0, .int .i64 0, .int .i64 0, .int .i64 0, .int .i64 0, .int .i64 0, .int .i64 0, .int .i64 0, .int .i64 0, .int .i64 0, .int .i64 0, .int .i64 0, .int .i64 0, .int .i64 0, .int .i64 0, .int .i64 0, .int .i64 0, .int .i64 0, .int .i64 0, .int .i64 0, .int .i64 0, .int .i64 0, .int .i64 0, .int .i64 0, .int .i64 0, .int .i64 0, .int .i64 0, .int .i64 0, .int .i64 0, .int .i64 0, .int .i64 0, .int .i64 0, .int .i64 0, .pointer (some ⟨w4.heap.size + 1, 0, none⟩), .int .i64 1] 112)
  rw [hWs] at hP hB
  refine ⟨w4.heap.size + 1 + 1, w4.heap.size, by simp, ?_, by omega, by omega, by simp [hWs], by simp [hWs]; omega, ?_⟩
  · exact hb2.trans ((hb3.mono (by omega)).trans ((hb4.mono (by omega)).trans ((hWb.mono (by omega)).trans (hB.mono (by omega)))))
  · exact hP.mono (by intro b hb; simp [hWs]; omega)
end Go.Proofs.Ytpkkjgcpmnoalaa
