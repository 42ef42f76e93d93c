import Derived.Test.YtpkkjgcpmnoalaaApp
namespace Go.Proofs.Ytpkkjgcpmnoalaa
open Go.RowKit
set_option linter.unusedVariables false
set_option linter.unusedSimpArgs false

theorem CodeV.src' {B : Nat} {w : World} {v : Value} {l : List Ins} (h : CodeV B w v l) : SrcAt w v l.length (flat l) := by
  obtain ⟨_, ⟨rfl, rfl⟩ | ⟨b, off, cap, rfl, _, hc⟩ | ⟨a, cap, rfl, rfl⟩⟩ := h
  · exact .inl ⟨rfl, rfl, rfl⟩
  · exact .inr (.inl ⟨b, off, cap, rfl, hc.row⟩)
  · exact .inr (.inr ⟨a, cap, rfl, rfl⟩)

theorem owns_form {w : World} {base : Nat} {e : TypeId} {size : Nat} {v : Value} {n : Nat} {xs : List Value} (h : w.ownsRow base e size v n xs) : ∃ sa sc, v = .slice sa n sc := by
  obtain ⟨_, ⟨rfl, rfl⟩ | ⟨g, cap, cur, rfl, _⟩⟩ := h
  · exact ⟨_, _, rfl⟩
  · exact ⟨_, _, rfl⟩

theorem only_grown {w w' : World} {row : Option Nat} (h : w.grownBy w' row) : Only (fun b => some b = row) w w' := ⟨h.os, h.tape, h.output, h.size, fun k hk hn => h.block k hk hn⟩

theorem own_kept {w w' : World} {base : Nat} {e : TypeId} {size : Nat} {v : Value} {n : Nat} {xs : List Value} (h : w.ownsRow base e size v n xs) (hb : Below w.heap.size w w') : w'.ownsRow base e size v n xs :=
  h.kept (row := none) ⟨hb.os, hb.tape, hb.output, hb.size, fun k hk _ => hb.block k hk⟩ (by cases v.ownBlock <;> simp)

/-- The copies of the first kinds, as the document's answer gathers them. -/
def CodesIn (lo : Nat) (w : World) (ov : Value) (vs : List Value) (ks : List (List Ins)) : Prop :=
  ∀ (i : Nat) v l, vs[i]? = some v → ks[i]? = some l → CodeIn (fun b => lo ≤ b ∧ b < w.heap.size ∧ some b ≠ ov.ownBlock) w v l

theorem CodesIn.step {lo : Nat} {w w1 W w2 : World} {ov v1 v2 : Value} {vs : List Value} {ks : List (List Ins)} {k n : Nat} {e : TypeId} (h : CodesIn lo w ov vs ks) (hvs : vs.length = k) (hk : k < ks.length)
    (hown : w.ownsRow lo e 1 ov n vs) (hb1 : Below w.heap.size w w1) (hc : CodeIn (fun b => w.heap.size ≤ b ∧ b < w1.heap.size) w1 v1 ks[k]) (hbW : Below w1.heap.size w1 W) (hW : w1.heap.size < W.heap.size) (hlo : lo ≤ w.heap.size)
    (hg : W.grownBy w2 ov.ownBlock) (hwh : v2.ownBlock = ov.ownBlock ∨ v2.ownBlock = some W.heap.size) : CodesIn lo w2 v2 (vs ++ [v1]) ks := by
  have hz1 := hb1.size
  have hz2 := hg.size
  have hlt : ∀ b, ov.ownBlock = some b → b < w.heap.size := fun b hb => (hown.lt b hb).2
  intro i v l hv hl
  by_cases hi : i < k
  · rw [List.getElem?_append_left (by omega)] at hv
    have := h i v l hv hl
    refine (((this.only (Only.new (S := fun _ => False) hb1) (by simp)).only ((Only.new (S := fun _ => False) (hbW.mono (Nat.le_refl _)))) (by simp)).only (only_grown hg) (by intro b hb; exact hb.2.2)).mono ?_
    intro b hb
    refine ⟨hb.1, by omega, ?_⟩
    rcases hwh with h | h <;> rw [h]
    · exact hb.2.2
    · intro e; have := Option.some.inj e; omega
  · rw [List.getElem?_append_right (by omega)] at hv
    have hik : i = k := by
      have := (List.getElem?_eq_some_iff.1 hv).1
      simp at this; omega
    subst hik
    rw [hvs] at hv
    simp at hv
    subst hv
    have : l = ks[i] := by rw [List.getElem?_eq_getElem hk] at hl; exact (Option.some.inj hl).symm
    subst this
    refine ((hc.only (Only.new (S := fun _ => False) hbW) (by simp)).only (only_grown hg) (by intro b hb e; have := hlt b e.symm; omega)).mono ?_
    intro b hb
    refine ⟨by omega, by omega, ?_⟩
    rcases hwh with h | h <;> rw [h]
    · intro e; have := hlt b e.symm; omega
    · intro e; have := Option.some.inj e; omega

set_option maxRecDepth 100000 in
set_option maxHeartbeats 1000000 in
theorem rModel_any (ents : Int) (b off cap : Nat) (ks : List (List Ins)) (w : World) (hl : ks.length ≤ 5864062014805) (hbw : b < w.heap.size) (hK : KindsAt w.heap.size w b off ks) :
    Calls Try.prog 59 #[.agg #[.int .i64 ents, .slice (some ⟨b, off, none⟩) ks.length cap]] w
      fun e w' => ∃ sa sc, e = .returned (.agg #[.int .i64 ents, .slice sa ks.length sc]) ∧ Below w.heap.size w w' ∧ KindsIn (fun b => w.heap.size ≤ b ∧ b < w'.heap.size) w' (.slice sa ks.length sc) ks := by
  go_enter Try.func59, Try.ntmps59
  go_wp2
  go_loopw [4, 5] (fun i _ wr => ∃ (k : Nat) (vs : List Value) (oa : Option Addr) (oc : Nat), k ≤ ks.length ∧ i = .int .i64 k ∧ Below w.heap.size w wr ∧ Hid (wr.ownsRow (w.heap.size + 1 + 1 + 1) 60 1 (.slice oa k oc) k vs) ∧
      CodesIn (w.heap.size + 1 + 1 + 1) wr (.slice oa k oc) vs ks ∧ wr.cell? ⟨w.heap.size + 1 + 1, 0, none⟩ = some (.int .i64 ents) ∧ wr.cell? ⟨w.heap.size + 1 + 1, 1, none⟩ = some (.slice oa k oc) ∧ Room wr (w.heap.size + 1 + 1) 2 ∧
      wr.cell? ⟨w.heap.size, 1, none⟩ = some (.slice (some ⟨b, off, none⟩) ks.length cap) ∧ Room wr (w.heap.size + 1) 2 ∧ w.heap.size + 1 + 1 < wr.heap.size) (fun i _ _ => ks.length - (intOf i).toNat)
  case atStart =>
    refine ⟨0, [], none, 0, by omega, rfl, (((Below.refl _ _).alloc (Nat.le_refl _) _).alloc (by simp) _).alloc (by simp; omega) _, World.ownsRow_nil _ _ _ _, by intro i v l hv; simp at hv, by simp [go_sem], by simp [go_sem], ?_, by simp [go_sem], ?_, by simp⟩
    · intro j hj; have : j = 0 ∨ j = 1 := by omega
      rcases this with rfl | rfl <;> simp [go_sem]
    · intro j hj; have : j = 0 ∨ j = 1 := by omega
      rcases this with rfl | rfl <;> simp [go_sem]
  case round =>
    obtain ⟨k, vs, oa, oc, hk, rfl, hbel, hown, hC, ho0, ho1, hR2, hm1, hR1, hz⟩ := hrel
    by_cases hlt : k < ks.length
    · obtain ⟨v, hv0, hv⟩ := (hK.below hbel hbw (Nat.le_refl _)) k ks[k] (by simp)
      have Hs := hide hv.src'
      have Hl := hide hv.1
      have hvs : vs.length = k := by simpa using hown.out.1
      have Hvs := hide hvs
      clear hvs
      go_wp2_with (at_builtin; refine wpList_append_src rfl (.tmp 16) (.tmp 21) 60 rfl wr.heap.size 59 (.agg #[.int .i64 0, .int .i64 0, .int .i64 0, .int .i64 0]) 4 32 Try.underlying60 Try.info59 rfl (by omega) _ 0 [] rfl (World.ownsRow_nil _ _ _ _) v ks[k].length (flat ks[k]) rfl Hs.out (flat_length _) (flat_one _) (by have := Hl.out; omega) (by have := Hl.out; omega) (by omega) ?_)
      intro v1 w1 hown1 hgr1 hwh1
      have hb1 : Below wr.heap.size wr w1 := (Below.refl _ _).grown hgr1.out (Nat.le_refl _) (by intro k hk; simp [Value.ownBlock] at hk)
      have hcode := owns_code (l := ks[k]) (by simpa using hown1.out) hv.1
      obtain ⟨sa, sc, rfl⟩ := hcode.form
      have HC := hide hcode
      clear hcode hown1 hgr1 hwh1
      have hg0 := below_at hb1 ho0 (by omega)
      have hg1 := below_at hb1 ho1 (by omega)
      have hz1 := hb1.size
      obtain ⟨hs1, hf1⟩ := (hR2.below hb1 (by omega)) 1 (by omega)
      clear hs1
      go_wp2_with (at_builtin; refine wpList_append_src rfl (.tmp 24) (.tmp 26) 36 rfl (w.heap.size + 1 + 1 + 1) 60 (.slice none 0 0) 1 24 Try.underlying36 Try.info60 rfl (by omega) _ k vs rfl ((own_kept hown.out hb1).alloc _) _ 1 [.slice sa ks[k].length sc] rfl (.inr (.inl ⟨w1.heap.size, 0, _, rfl, ?_⟩)) rfl (by simp [Value.oneCell']) (by omega) (by omega) (by simp; omega) ?_)
      · intro j u hu
        have : j = 0 := by have := (List.getElem?_eq_some_iff.1 hu).1; simp at this; omega
        subst this
        simp at hu; subst hu
        simp [go_sem]
      intro v2 w2 hown2 hgr2 hwh2
      obtain ⟨sa2, sc2, rfl⟩ := owns_form hown2.out
      have hbW := (Below.refl w1.heap.size w1).alloc (Nat.le_refl _) (.cells #[.slice sa ks[k].length sc] 60)
      have hst := hC.step Hvs.out hlt hown.out hb1 HC.out hbW (by simp) (by omega) hgr2.out (v2 := .slice sa2 (k + 1) sc2) (by have := hwh2.out; simpa using this)
      have hb2 : Below (w.heap.size + 1 + 1 + 1) w1 w2 := (hbW.mono (by omega)).grown hgr2.out (by simp; omega) (fun b hb => (hown.out.lt b hb).1)
      have hfz := hb2.frozen (p := ⟨w.heap.size + 1 + 1, 1, none⟩) (by simp)
      rw [hf1] at hfz
      have hg11 := below_at hb2 hg1 (by omega)
      have hz2 := hb2.size
      have HS := hide hst
      clear hst hf1
      go_wp2
      go_roundw
      case rel =>
        have hsz : (w2.setCell ⟨w.heap.size + 1 + 1, 1, none⟩ (.slice sa2 (k + 1) sc2)).heap.size = w2.heap.size := by simp [World.setCell]
        have ho : Only (· = w.heap.size + 1 + 1) w2 (w2.setCell ⟨w.heap.size + 1 + 1, 1, none⟩ (.slice sa2 (k + 1) sc2)) := Only.setCell (S := (· = w.heap.size + 1 + 1)) (Only.refl _ _) rfl _
        refine ⟨k + 1, vs ++ [.slice sa ks[k].length sc], sa2, sc2, by omega, by go_num, ((hbel.trans (hb1.mono (by omega))).trans (hb2.mono (by omega))).setCell (by simp; omega) _, ?_, ?_, ?_, ?_, ?_, ?_, ?_, ?_⟩
        · exact ownsRow_setCell_below hown2.out (by simp) _
        · intro i v l hv hl
          rw [hsz]
          exact (HS.out i v l hv hl).only ho (by intro b hb; omega)
        · rw [World.cell?_setCell_other _ _ _ _ (by simp)]; exact below_at hb2 hg0 (by omega)
        · exact World.cell?_setCell_same' _ _ _ (by rw [hg11]; rfl)
        · exact ((hR2.below hb1 (by omega)).below hb2 (by omega)).setCell _ _
        · rw [World.cell?_setCell_other _ _ _ _ (by simp; try omega)]; exact below_at hb2 (below_at hb1 hm1 (by omega)) (by omega)
        · exact ((hR1.below hb1 (by omega)).below hb2 (by omega)).setCell _ _
        · rw [hsz]; omega
      case measure => simp [intOf]; omega
    · have hk' : k = ks.length := by omega
      subst hk'
      obtain ⟨s1, f1⟩ := hR1 0 (by omega)
      obtain ⟨s2, f2⟩ := hR1 1 (by omega)
      obtain ⟨u1, hu1⟩ := Option.isSome_iff_exists.1 s1
      obtain ⟨u2, hu2⟩ := Option.isSome_iff_exists.1 s2
      clear s1 s2
      go_wp2
      refine bodyPost_ret (v := .agg #[.int .i64 ents, .slice oa ks.length oc]) (by simp [results, Try.results59, go_sem, hu1, hu2]) rfl ⟨_, _, rfl, (hbel.setCell (by simp) _).setCell (by simp) _, ?_⟩
      have ho : Only (· = w.heap.size + 1) wr _ := ((Only.refl (· = w.heap.size + 1) wr).setCell (p := ⟨w.heap.size + 1, 0, none⟩) rfl (.int .i64 ents)).setCell (p := ⟨w.heap.size + 1, 1, none⟩) rfl (.slice oa ks.length oc)
      have hsz : ((wr.setCell ⟨w.heap.size + 1, 0, none⟩ (.int .i64 ents)).setCell ⟨w.heap.size + 1, 1, none⟩ (.slice oa ks.length oc)).heap.size = wr.heap.size := by simp [World.setCell]
      rcases owns_row hown.out with ⟨hnil, h0, _⟩ | ⟨g, cap', hg, h1, h2, h3⟩
      · exact ⟨hl, .inl ⟨hnil, List.eq_nil_of_length_eq_zero h0⟩⟩
      · have hvl : vs.length = ks.length := by simpa using hown.out.1
        refine ⟨hl, .inr ⟨g, 0, cap', hg, by omega, ?_⟩⟩
        intro i l hil
        have hilt : i < ks.length := (List.getElem?_eq_some_iff.1 hil).1
        have hvi : vs[i]? = some vs[i] := by simp [hvl, hilt]
        exact ⟨_, ho.at (h3 i _ hvi) (by omega), ((hC i _ l hvi hil).only ho (by intro b hb; omega)).mono (by intro b hb; omega)⟩
end Go.Proofs.Ytpkkjgcpmnoalaa
