import Derived.Test.YtndlmgocldckfaaKer
import Derived.Test.YtndlmgocldckfaaDrawP
import Derived.Test.YtndlmgocldckfaaCopyP
import Derived.Carry
namespace Go.Proofs.Ytndlmgocldckfaa
open Go.RowKit
set_option linter.unusedVariables false
set_option linter.unusedSimpArgs false

def ks0 : KS := ⟨0, 0, 1, fun _ => 0, []⟩

theorem kerP_new (W : World) (R : Nat → Prop) (base : Nat) (T : TypeId) (C : Array Value) (ents : Int) (kv dv : Value) (qb mb : Nat) (ks : List (List Ins)) (draws : List Int) (hk : KindsIn R W kv ks) (hd : IntsIn R W dv draws) (hq : QueP base W qb mb (.slice none 0 0) []) (hR : ∀ b, R b → b < W.heap.size ∧ b ≠ qb ∧ b ≠ mb)
    (h0 : C[0]? = some (.int .i64 ents)) (h1 : C[1]? = some kv) (h2 : C[2]? = some dv) (h3 : C[3]? = some (.pointer (some ⟨qb, 0, none⟩))) (h4 : C[4]? = some (.int .i64 0)) (h5 : C[5]? = some (.int .i64 1)) (h6 : C[6]? = some (.int .i64 0)) (hr : ∀ j, j < 32 → C[7 + j]? = some (.int .i64 0)) :
    KerP R base (W.alloc (.cells C T)) W.heap.size qb mb (.slice none 0 0) ents ks draws ks0 := by
  have hb := (Below.refl W.heap.size W).alloc (Nat.le_refl _) (.cells C T)
  have hat : ∀ i, (W.alloc (.cells C T)).cell? ⟨W.heap.size, i, none⟩ = C[i]? := fun i => World.cell?_alloc_at _ _ _ _ rfl
  have hfr : ∀ i, (W.alloc (.cells C T)).frozen? ⟨W.heap.size, i, none⟩ = false := fun i => World.frozen?_alloc_at _ _ _ _ rfl
  have ho := Only.new (S := fun _ => False) hb
  have hnk : ¬ QSet qb mb (.slice none 0 0) W.heap.size := by
    rintro (hc | hc | hc)
    · have := hq.lt qb (.inl rfl); omega
    · have := hq.lt mb (.inr (.inl rfl)); omega
    · simp [Value.ownBlock] at hc
  refine ⟨(hat 0).trans h0, ⟨kv, (hat 1).trans h1, hk.only ho (by simp)⟩, ⟨dv, (hat 2).trans h2, hd.only ho (by simp)⟩, (hat 3).trans h3, (hat 4).trans h4, (hat 5).trans h5, (hat 6).trans h6, fun j hj => (hat _).trans (hr j hj), ?_, hq.only ho (by simp), hnk, ?_, fun b hb' => by have := (hR b hb').1; simp; omega⟩
  · intro j hj
    refine ⟨?_, hfr j⟩
    rw [hat]
    by_cases hj7 : 7 ≤ j
    · have := hr (j - 7) (by omega)
      rw [show 7 + (j - 7) = j by omega] at this
      rw [this]; rfl
    · have : j = 0 ∨ j = 1 ∨ j = 2 ∨ j = 3 ∨ j = 4 ∨ j = 5 ∨ j = 6 := by omega
      rcases this with rfl | rfl | rfl | rfl | rfl | rfl | rfl
      · rw [h0]; rfl
      · rw [h1]; rfl
      · rw [h2]; rfl
      · rw [h3]; rfl
      · rw [h4]; rfl
      · rw [h5]; rfl
      · rw [h6]; rfl
  · intro b hb'
    obtain ⟨r1, r2, r3⟩ := hR b hb'
    refine ⟨by omega, ?_⟩
    rintro (hc | hc | hc)
    · exact r2 hc
    · exact r3 hc
    · simp [Value.ownBlock] at hc

theorem zeros32 (a b c d e f g : Value) : ∀ j, j < 32 → (#[a, b, c, d, e, f, g, .int .i64 0, .int .i64 0, .int .i64 0, .int .i64 0, .int .i64 0, .int .i64 0, .int .i64 0, .int .i64 0, .int .i64 0, .int .i64 0, .int .i64 0, .int .i64 0, .int .i64 0, .int .i64 0, .int .i64 0, .int .i64 0, .int .i64 0, .int .i64 0, .int .i64 0, .int .i64 0, .int .i64 0, .int .i64 0, .int .i64 0, .int .i64 0, .int .i64 0, .int .i64 0, .int .i64 0, .int .i64 0, .int .i64 0, .int .i64 0, .int .i64 0, .int .i64 0] : Array Value)[7 + j]? = some (.int .i64 0) := by
  intro j hj
  have : j = 0 ∨ j = 1 ∨ j = 2 ∨ j = 3 ∨ j = 4 ∨ j = 5 ∨ j = 6 ∨ j = 7 ∨ j = 8 ∨ j = 9 ∨ j = 10 ∨ j = 11 ∨ j = 12 ∨ j = 13 ∨ j = 14 ∨ j = 15 ∨ j = 16 ∨ j = 17 ∨ j = 18 ∨ j = 19 ∨ j = 20 ∨ j = 21 ∨ j = 22 ∨ j = 23 ∨ j = 24 ∨ j = 25 ∨ j = 26 ∨ j = 27 ∨ j = 28 ∨ j = 29 ∨ j = 30 ∨ j = 31 := by omega
  rcases this with rfl | rfl | rfl | rfl | rfl | rfl | rfl | rfl | rfl | rfl | rfl | rfl | rfl | rfl | rfl | rfl | rfl | rfl | rfl | rfl | rfl | rfl | rfl | rfl | rfl | rfl | rfl | rfl | rfl | rfl | rfl | rfl <;> rfl

set_option maxHeartbeats 400000 in
theorem tNew_model {B : Nat} (ents : Int) (v dv : Value) (ks : List (List Ins)) (w : World) (hv : KindsV w.heap.size w v ks) (p : Nat × Nat) (hk : kindF ents ks = some p) :
    Calls Try.prog 24 #[.agg #[.int .i64 ents, v], dv] w
      fun e w' => e = .returned (.tuple #[.pointer none, .int .i64 2]) ∧ Below w.heap.size w w' := by
  have hV : checkV ents ks = .tuple #[.int .i64 2, .int .i64 p.1, .int .i64 p.2] := by simp [checkV, hk]
  have HV := hide hV
  clear hV hk
  go_enter Try.func24, Try.ntmps24
  go_wp2_with fail
  refine (mCheck_any ents v ks _ ((hv.below ((Below.refl _ _).alloc (Nat.le_refl _) _)).mono (by simp))).mono ?_
  rintro e w1 ⟨rfl, hb1⟩
  rw [HV.out]
  go_wp2
  go_ret2
  exact ⟨rfl, ((Below.refl _ _).alloc (Nat.le_refl _) _).trans (hb1.mono (by simp))⟩

set_option maxHeartbeats 400000 in
theorem tNew_draws (ents : Int) (v dv : Value) (ks : List (List Ins)) (draws : List Int) (w : World) (hv : KindsV w.heap.size w v ks) (hd : IntsIn (· < w.heap.size) w dv draws) (hk : kindF ents ks = none) (hD : drawsF draws = false) :
    Calls Try.prog 24 #[.agg #[.int .i64 ents, v], dv] w
      fun e w' => e = .returned (.tuple #[.pointer none, .int .i64 1]) ∧ Below w.heap.size w w' := by
  have HV : Hid (checkV ents ks = .tuple #[.int .i64 0, .int .i64 0, .int .i64 0]) := by show _ = _; simp [checkV, hk]
  clear hk
  go_enter Try.func24, Try.ntmps24
  go_wp2_with fail
  refine (mCheck_any ents v ks _ ((hv.below ((Below.refl _ _).alloc (Nat.le_refl _) _)).mono (by simp))).mono ?_
  rintro e w1 ⟨rfl, hb1⟩
  rw [HV.out]
  have hb2 : Below w.heap.size w w1 := ((Below.refl _ _).alloc (Nat.le_refl _) _).trans (hb1.mono (by simp))
  go_wp2_with fail
  refine (areDraws_any dv draws _ (hd.only (Only.ofBelow (S := (w.heap.size ≤ ·)) hb2 (fun k h _ => h)) (by intro b hb; omega))).mono ?_
  rintro e w2 ⟨rfl, rfl⟩
  rw [hD]
  go_wp2
  go_ret2
  exact ⟨rfl, hb2⟩

theorem Try.infoI : (Try.prog.info? 3).map (fun i => (i.zero, i.size, i.bytes)) = some (some (.int .i64 0), 1, 8) := by kernel_rfl

theorem IntsIn.src {R : Nat → Prop} {w : World} {v : Value} {l : List Int} (h : IntsIn R w v l) : SrcAt w v l.length (ints l) := by
  obtain ⟨_, ⟨rfl, rfl⟩ | ⟨b, off, cap, rfl, _, hc⟩⟩ := h
  · exact .inl ⟨rfl, rfl, rfl⟩
  · exact .inr (.inl ⟨b, off, cap, rfl, hc⟩)

set_option maxRecDepth 100000 in
set_option maxHeartbeats 1000000 in
theorem tNew_yes (ents : Int) (b off cap : Nat) (dv : Value) (ks : List (List Ins)) (draws : List Int) (w : World) (hl : ks.length ≤ 5864062014805) (hbw : b < w.heap.size) (hK : KindsAt w.heap.size w b off ks) (hd : IntsIn (· < w.heap.size) w dv draws) (hk : kindF ents ks = none) (hD : drawsF draws = true) :
    Calls Try.prog 24 #[.agg #[.int .i64 ents, .slice (some ⟨b, off, none⟩) ks.length cap], dv] w
      fun e w' => ∃ kb qb mb, e = .returned (.tuple #[.pointer (some ⟨kb, 0, none⟩), .int .i64 0]) ∧ Below w.heap.size w w' ∧ w.heap.size ≤ kb ∧ w.heap.size ≤ qb ∧ w.heap.size ≤ mb ∧
        KerP (fun b => w.heap.size ≤ b ∧ b < w'.heap.size ∧ b ≠ kb ∧ b ≠ qb ∧ b ≠ mb) w.heap.size w' kb qb mb (.slice none 0 0) ents ks draws ks0 := by
  have HV : Hid (checkV ents ks = .tuple #[.int .i64 0, .int .i64 0, .int .i64 0]) := by show _ = _; simp [checkV, hk]
  clear hk
  go_enter Try.func24, Try.ntmps24
  go_wp2_with fail
  have hv : KindsV w.heap.size w (.slice (some ⟨b, off, none⟩) ks.length cap) ks := ⟨hl, .inr (.inl ⟨b, off, cap, rfl, hbw, hK⟩)⟩
  refine (mCheck_any ents _ ks _ ((hv.below ((Below.refl _ _).alloc (Nat.le_refl _) _)).mono (by simp))).mono ?_
  rintro e w1 ⟨rfl, hb1⟩
  rw [HV.out]
  have hb2 : Below w.heap.size w w1 := ((Below.refl _ _).alloc (Nat.le_refl _) _).trans (hb1.mono (by simp))
  have hm0 : w1.cell? ⟨w.heap.size, 0, none⟩ = some (.int .i64 ents) := below_at hb1 (by simp [go_sem]) (by simp)
  have hm1 : w1.cell? ⟨w.heap.size, 1, none⟩ = some (.slice (some ⟨b, off, none⟩) ks.length cap) := below_at hb1 (by simp [go_sem]) (by simp)
  have hz1 : w.heap.size < w1.heap.size := by have := hb1.size; simp at this; omega
  clear hb1
  go_wp2_with fail
  refine (areDraws_any dv draws _ (hd.only (Only.ofBelow (S := (w.heap.size ≤ ·)) hb2 (fun k h _ => h)) (by intro b hb; omega))).mono ?_
  rintro e w2 ⟨rfl, rfl⟩
  rw [hD]
  go_wp2_with fail
  refine (mCopy_any ents b off cap ks _ hl (by omega) ((hK.below hb2 hbw (Nat.le_refl _)).mono (by omega))).mono ?_
  rintro e w3 ⟨sa, sc, rfl, hb3, hK3⟩
  have hd3 := ((hd.only (Only.ofBelow (S := (w.heap.size ≤ ·)) hb2 (fun k h _ => h)) (by intro b hb; omega)).only (Only.new (S := fun _ => False) hb3) (by simp))
  have Hs := hide hd3.src
  have Hl := hide hd3.1
  go_wp2_with (at_builtin; refine wpList_append_src rfl (.const (.slice none 0 0)) (.tmp 23) 22 rfl w3.heap.size 3 (.int .i64 0) 1 8 Try.underlying22 Try.infoI rfl (by omega) _ 0 [] rfl (World.ownsRow_nil _ _ _ _) dv draws.length (ints draws) rfl Hs.out (by simp [ints]) (ints_one _) (by have := Hl.out; omega) (by have := Hl.out; omega) (by omega) ?_)
  intro v4 w4 hown hgr hnil
  have hb4 : Below w3.heap.size w3 w4 := (Below.refl _ _).grown hgr.out (Nat.le_refl _) (by intro k hk; simp [Value.ownBlock] at hk)
  have hd4 := owns_ints (l := draws) (by simpa using hown.out) hd.1
  obtain ⟨sa4, sc4, rfl⟩ := hd4.form
  go_wp2_with (go_at_call 48; refine (qNew_any _).mono ?_; rintro e w5 ⟨rfl, rfl⟩)
  go_ret2
  obtain ⟨W, hW⟩ : ∃ W, W = (w4.alloc (.map #[] 0)).alloc (.cells #[.map (some w4.heap.size), .slice none 0 0] 111) := ⟨_, rfl⟩
  have hWs : W.heap.size = w4.heap.size + 1 + 1 := by rw [hW]; simp
  have hWb : Below w4.heap.size w4 W := by rw [hW]; exact ((Below.refl _ _).alloc (Nat.le_refl _) _).alloc (by simp) _
  have hWq : QueP w.heap.size W (w4.heap.size + 1) w4.heap.size (.slice none 0 0) [] := by rw [hW]; exact queP_new _ _ _
  rw [← hW]
  have hz2 := hb2.size
  have hz3 := hb3.size
  have hz4 := hb4.size
  have hk5 : KindsIn (fun b => w.heap.size ≤ b ∧ b < w4.heap.size) W (.slice sa ks.length sc) ks :=
    (((hK3.only (Only.new (S := fun _ => False) hb4) (by simp)).mono (R' := fun b => w.heap.size ≤ b ∧ b < w4.heap.size) (by intro b hb; omega)).only (Only.new (S := fun _ => False) hWb) (by simp))
  have hd5 : IntsIn (fun b => w.heap.size ≤ b ∧ b < w4.heap.size) W (.slice sa4 draws.length sc4) draws :=
    (hd4.only (Only.new (S := fun _ => False) hWb) (by simp)).mono (by intro b hb; omega)
  have hP := kerP_new W (fun b => w.heap.size ≤ b ∧ b < w4.heap.size) w.heap.size 77 #[.int .i64 ents, .slice sa ks.length sc, .slice sa4 draws.length sc4, .pointer (some ⟨w4.heap.size + 1, 0, none⟩), .int .i64 0, .int .i64 1, .int .i64 0, .int .i64 0, .int .i64 0, .int .i64 0, .int .i64 0, .int .i64 0, .int .i64 0, .int .i64 0, .int .i64 0, .int .i64 0, .int .i64 0, .int .i64 0, .int .i64 0, .int .i64 0, .int .i64 0, .int .i64 0, .int .i64 0, .int .i64 0, .int .i64 0, .int .i64 0, .int .i64 0, .int .i64 0, .int .i64 0, .int .i64 0, .int .i64 0, .int .i64 0, .int .i64 0, .int .i64 0, .int .i64 0, .int .i64 0, .int .i64 0, .int .i64 0, .int .i64 0] ents _ _ (w4.heap.size + 1) w4.heap.size ks draws hk5 hd5 hWq (by intro b hb; omega) rfl rfl rfl rfl rfl rfl rfl (zeros32 _ _ _ _ _ _ _)
  have hB := (Below.refl W.heap.size W).alloc (Nat.le_refl _) (.cells #[.int .i64 ents, .slice sa ks.length sc, .slice sa4 draws.length sc4, .pointer (some ⟨w4.heap.size + 1, 0, none⟩), .int .i64 0, .int .i64 1, .int .i64 0, .int .i64 0, .int .i64 0, .int .i64 0, .int .i64 0, .int .i64 0, .int .i64 0, .int .i64 0, .int .i64 0, .int .i64 0, .int .i64 0, .int .i64 0, .int .i64 0, .int .i64 0, .int .i64 0, .int .i64 0, .int .i64 0, .int .i64 0, .int .i64 0, .int .i64 0, .int .i64 0, .int .i64 0, .int .i64 0, .int .i64 0, .int .i64 0, .int .i64 0, .int .i64 0, .int .i64 0, .int .i64 0, .int .i64 0, .int .i64 0, .int .i64 0, .int .i64 0] 77)
  rw [hWs] at hP hB
  have hsz : (W.alloc (.cells #[.int .i64 ents, .slice sa ks.length sc, .slice sa4 draws.length sc4, .pointer (some ⟨w4.heap.size + 1, 0, none⟩), .int .i64 0, .int .i64 1, .int .i64 0, .int .i64 0, .int .i64 0, .int .i64 0, .int .i64 0, .int .i64 0, .int .i64 0, .int .i64 0, .int .i64 0, .int .i64 0, .int .i64 0, .int .i64 0, .int .i64 0, .int .i64 0, .int .i64 0, .int .i64 0, .int .i64 0, .int .i64 0, .int .i64 0, .int .i64 0, .int .i64 0, .int .i64 0, .int .i64 0, .int .i64 0, .int .i64 0, .int .i64 0, .int .i64 0, .int .i64 0, .int .i64 0, .int .i64 0, .int .i64 0, .int .i64 0, .int .i64 0] 77)).heap.size = w4.heap.size + 3 := by simp [hWs]
  refine ⟨w4.heap.size + 1 + 1, w4.heap.size + 1, w4.heap.size, rfl, ?_, by omega, by omega, by omega, ?_⟩
  · exact hb2.trans ((hb3.mono (by omega)).trans ((hb4.mono (by omega)).trans ((hWb.mono (by omega)).trans (hB.mono (by omega)))))
  · obtain ⟨c0, ⟨kv, k1, k2⟩, ⟨dv', d1, d2⟩, c3, c4, c5, c6, rg, rm, qe, kq, fr, rl⟩ := hP
    refine ⟨c0, ⟨kv, k1, k2.mono ?_⟩, ⟨dv', d1, d2.mono ?_⟩, c3, c4, c5, c6, rg, rm, qe, kq, ?_, ?_⟩
    · intro b hb; rw [hsz]; omega
    · intro b hb; rw [hsz]; omega
    · intro b hb
      refine ⟨hb.2.2.1, ?_⟩
      rintro (hc | hc | hc)
      · exact hb.2.2.2.1 hc
      · exact hb.2.2.2.2 hc
      · simp [Value.ownBlock] at hc
    · intro b hb; exact hb.2.1
end Go.Proofs.Ytndlmgocldckfaa
