import Derived.Test.YtndlmgocldckfaaApp
namespace Go.Proofs.Ytndlmgocldckfaa
open Go.RowKit
set_option linter.unusedVariables false
set_option linter.unusedSimpArgs false

theorem CodeV.src {B : Nat} {w : World} {v : Value} {l : List Ins} (h : CodeV B w v l) : SrcAt w v l.length (flat l) := by
  obtain ⟨_, ⟨rfl, rfl⟩ | ⟨b, off, cap, rfl, _, hc⟩ | ⟨a, cap, rfl, rfl⟩⟩ := h
  · exact .inl ⟨rfl, rfl, rfl⟩
  · exact .inr (.inl ⟨b, off, cap, rfl, hc.row⟩)
  · exact .inr (.inr ⟨a, cap, rfl, rfl⟩)

/-- The first k kinds have been copied, into the row at g; the copies lie from lo on. -/
def CopyTo (lo : Nat) (w : World) (g k : Nat) (ks : List (List Ins)) : Prop :=
  ∀ (i : Nat) l, i < k → ks[i]? = some l → ∃ v, w.cell? ⟨g, i, none⟩ = some v ∧ CodeIn (fun b => lo ≤ b ∧ b < w.heap.size) w v l

theorem CopyTo.step {lo : Nat} {w w1 : World} {g k : Nat} {ks : List (List Ins)} (h : CopyTo lo w g k ks) (hg : g < lo) (hz : lo ≤ w.heap.size) (hb : Below w.heap.size w w1) (v : Value) (hk : k < ks.length)
    (hv : CodeIn (fun b => lo ≤ b ∧ b < w1.heap.size) w1 v ks[k]) (hr : (w1.cell? ⟨g, k, none⟩).isSome = true) : CopyTo lo (w1.setCell ⟨g, k, none⟩ v) g (k + 1) ks := by
  have hsz : (w1.setCell ⟨g, k, none⟩ v).heap.size = w1.heap.size := by simp [World.setCell]
  have ho : Only (· = g) w1 (w1.setCell ⟨g, k, none⟩ v) := Only.setCell (S := (· = g)) (Only.refl _ _) rfl _
  have hbs := hb.size
  intro i l hi hl
  rw [hsz]
  by_cases hik : i = k
  · subst hik
    have : l = ks[i] := by rw [List.getElem?_eq_getElem hk] at hl; exact (Option.some.inj hl).symm
    subst this
    exact ⟨v, World.cell?_setCell_same' _ _ _ hr, hv.only ho (by intro b hb; omega)⟩
  · obtain ⟨u, h1, h2⟩ := h i l (by omega) hl
    refine ⟨u, ?_, ?_⟩
    · rw [World.cell?_setCell_other _ _ _ _ (by simp; try omega)]; exact below_at hb h1 (by omega)
    · exact ((h2.only (Only.new (S := fun _ => False) hb) (by simp)).mono (R' := fun b => lo ≤ b ∧ b < w1.heap.size) (by intro b hb; omega)).only ho (by intro b hb; omega)

set_option maxRecDepth 100000 in
set_option maxHeartbeats 400000 in
theorem mCopy_any (ents : Int) (b off cap : Nat) (ks : List (List Ins)) (w : World) (hl : ks.length ≤ 5864062014805) (hbw : b < w.heap.size) (hK : KindsAt w.heap.size w b off ks) :
    Calls Try.prog 47 #[.agg #[.int .i64 ents, .slice (some ⟨b, off, none⟩) ks.length cap]] w
      fun e w' => ∃ sa sc, e = .returned (.agg #[.int .i64 ents, .slice sa ks.length sc]) ∧ Below w.heap.size w w' ∧ KindsIn (fun b => w.heap.size ≤ b ∧ b < w'.heap.size) w' (.slice sa ks.length sc) ks := by
  go_enter Try.func47, Try.ntmps47
  go_wp2_with (at_make; refine wpList_make_alloc _ rfl (.tmp 8) (.tmp 8) 38 rfl 80 (.slice none 0 0) 1 24 Try.underlying38 Try.info60 _ _ _ _ ks.length rfl rfl (by simp) (by simp) (by omega) (by omega) ?_)
  go_loopw [13, 4, 5] (fun i _ _ wr => ∃ k : Nat, k ≤ ks.length ∧ i = .int .i64 k ∧ Below w.heap.size w wr ∧ CopyTo (w.heap.size + 1 + 1 + 1) wr (w.heap.size + 1 + 1) k ks ∧ Room wr (w.heap.size + 1 + 1) ks.length ∧
      wr.cell? ⟨w.heap.size, 0, none⟩ = some (.int .i64 ents) ∧ Room wr (w.heap.size + 1) 2 ∧ w.heap.size + 1 + 1 < wr.heap.size) (fun i _ _ _ => ks.length - (intOf i).toNat)
  case atStart =>
    obtain ⟨W, hW⟩ : ∃ W, W = (w.alloc (Obj.cells #[Value.int IntKind.i64 ents, Value.slice (some { block := b, off := off }) ks.length cap] 40)).alloc (Obj.cells #[Value.int IntKind.i64 0, Value.slice none 0 0] 40) := ⟨_, rfl⟩
    have hWs : W.heap.size = w.heap.size + 1 + 1 := by rw [hW]; simp
    have hWb : Below w.heap.size w W := by rw [hW]; exact ((Below.refl _ _).alloc (Nat.le_refl _) _).alloc (by simp) _
    have hW1 : W.cell? ⟨w.heap.size, 0, none⟩ = some (.int .i64 ents) := by rw [hW]; simp [go_sem]
    have hW3 : Room W (w.heap.size + 1) 2 := by
      rw [hW]; intro j hj; have : j = 0 ∨ j = 1 := by omega
      rcases this with rfl | rfl <;> simp [go_sem]
    have hB := (Below.refl W.heap.size W).alloc (Nat.le_refl _) (.cells (madeCells #[.slice none 0 0] ks.length) 80)
    have hR := room_made W #[.slice none 0 0] ks.length 80
    rw [hWs] at hB hR
    rw [← hW]
    exact ⟨0, by omega, rfl, hWb.trans (hB.mono (by omega)), fun i l hi => absurd hi (by omega), hR, below_at hB hW1 (by omega), hW3.below hB (by omega), by simp [hWs]⟩
  case round =>
    obtain ⟨k, hk, rfl, hbel, hC, hR, hm0, hR1, hz⟩ := hrel
    by_cases hlt : k < ks.length
    · obtain ⟨v, hv0, hv⟩ := (hK.below hbel hbw (Nat.le_refl _)) k ks[k] (by simp)
      have Hs := hide hv.src
      have Hl := hide hv.1
      have Hlt : Hid (k < ks.length) := hlt
      go_wp2_with (at_builtin; refine wpList_append_src rfl (.const (.slice none 0 0)) (.tmp 20) 80 rfl (w.heap.size + 1 + 1 + 1) 82 (.agg #[.int .i64 0, .int .i64 0, .int .i64 0, .int .i64 0]) 4 32 Try.underlying80 Try.info59 rfl (by omega) _ 0 [] rfl (World.ownsRow_nil _ _ _ _) v ks[k].length (flat ks[k]) rfl Hs.out (flat_length _) (flat_one _) (by have := Hl.out; omega) (by have := Hl.out; omega) (by omega) ?_)
      intro v1 w1 hown hgr hnil
      have hb1 : Below wr.heap.size wr w1 := (Below.refl _ _).grown hgr.out (Nat.le_refl _) (by intro k hk; simp [Value.ownBlock] at hk)
      have hcode := owns_code (l := ks[k]) (by simpa using hown.out) hv.1
      obtain ⟨hs1, hf1⟩ := (hR.below hb1 (by omega)) k hlt
      obtain ⟨u1, hu1⟩ := Option.isSome_iff_exists.1 hs1
      obtain ⟨sa, sc, rfl⟩ := hcode.form
      have HC := hide hcode
      clear hcode
      go_wp2
      go_roundw
      case rel =>
        have hbs := hb1.size
        refine ⟨k + 1, by omega, by go_num, (hbel.trans (hb1.mono (by omega))).setCell (by simp; omega) _, hC.step (by omega) (by omega) hb1 _ hlt HC.out hs1, (hR.below hb1 (by omega)).setCell _ _, ?_, (hR1.below hb1 (by omega)).setCell _ _, by simp [World.setCell]; omega⟩
        rw [World.cell?_setCell_other _ _ _ _ (by simp; try omega)]; exact below_at hb1 hm0 (by omega)
      case measure => simp [intOf]; omega
    · have hk' : k = ks.length := by omega
      subst hk'
      obtain ⟨s1, f1⟩ := hR1 0 (by omega)
      obtain ⟨s2, f2⟩ := hR1 1 (by omega)
      obtain ⟨u1, hu1⟩ := Option.isSome_iff_exists.1 s1
      obtain ⟨u2, hu2⟩ := Option.isSome_iff_exists.1 s2
      clear s1 s2
      go_wp2
      refine bodyPost_ret (v := .agg #[.int .i64 ents, .slice (some ⟨w.heap.size + 1 + 1, 0, none⟩) ks.length ks.length]) (by simp [results, Try.results47, go_sem, hu1, hu2]) rfl ⟨_, _, rfl, (hbel.setCell (by simp) _).setCell (by simp) _, hl, .inr ⟨w.heap.size + 1 + 1, 0, _, rfl, by simp [World.setCell]; omega, ?_⟩⟩
      intro i l hil
      have hilt : i < ks.length := (List.getElem?_eq_some_iff.1 hil).1
      obtain ⟨v, h1, h2⟩ := hC i l hilt hil
      have ho : Only (· = w.heap.size + 1) wr _ := ((Only.refl (· = w.heap.size + 1) wr).setCell (p := ⟨w.heap.size + 1, 0, none⟩) rfl (.int .i64 ents)).setCell (p := ⟨w.heap.size + 1, 1, none⟩) rfl (.slice (some ⟨w.heap.size + 1 + 1, 0, none⟩) ks.length ks.length)
      refine ⟨v, ?_, (h2.only ho (by intro b hb; omega)).mono (by intro b hb; simp [World.setCell]; omega)⟩
      rw [Nat.zero_add]; exact ho.at h1 (by omega)
end Go.Proofs.Ytndlmgocldckfaa
