import Derived.Test.YtndlmgocldckfaaGreatAaZ
import Derived.Deep.RegionWith
import Derived.BigQuiet
import Derived.Deep.QuietTactic
namespace Go.Proofs.YtndlmgocldckfaaGreat
open Go.RowKit
set_option linter.unusedVariables false
set_option linter.unusedSimpArgs false

theorem CodeV.src' {B : Nat} {w : World} {v : Value} {l : List Ins} (h : CodeV B w v l) : SrcAt w v l.length (flat l) := by
  obtain ⟨_, ⟨rfl, rfl⟩ | ⟨b, off, cap, rfl, _, hc⟩ | ⟨a, cap, rfl, rfl⟩⟩ := h
  · exact .inl ⟨rfl, rfl, rfl⟩
  · exact .inr (.inl ⟨b, off, cap, rfl, hc.row⟩)
  · exact .inr (.inr ⟨a, cap, rfl, rfl⟩)

theorem owns_form {w : World} {base : Nat} {e : TypeId} {size : Nat} {v : Value} {n : Nat} {xs : List Value} (h : w.ownsRow base e size v n xs) : ∃ sa sc, v = .slice sa n sc := by
  obtain ⟨_, ⟨rfl, rfl⟩ | ⟨g, cap, cur, rfl, _⟩⟩ := h
  · exact ⟨_, _, rfl⟩
  · exact ⟨_, _, rfl⟩

theorem only_grown {w w' : World} {row : Option Nat} (h : w.grownBy w' row) : Only (fun b => some b = row) w w' := ⟨h.os, h.tape, h.output, h.size, fun k hk hn => h.block k hk hn⟩

theorem own_kept {w w' : World} {base : Nat} {e : TypeId} {size : Nat} {v : Value} {n : Nat} {xs : List Value} (h : w.ownsRow base e size v n xs) (hb : Below w.heap.size w w') : w'.ownsRow base e size v n xs :=
  h.kept (row := none) ⟨hb.os, hb.tape, hb.output, hb.size, fun k hk _ => hb.block k hk⟩ (by cases v.ownBlock <;> simp)

/-- The copies of the first kinds, as the document's answer gathers them. -/
def CodesIn (lo : Nat) (w : World) (ov : Value) (vs : List Value) (ks : List (List Ins)) : Prop :=
  ∀ (i : Nat) v l, vs[i]? = some v → ks[i]? = some l → CodeIn (fun b => lo ≤ b ∧ b < w.heap.size ∧ some b ≠ ov.ownBlock) w v l

theorem CodesIn.step {lo : Nat} {w w1 W w2 : World} {ov v1 v2 : Value} {vs : List Value} {ks : List (List Ins)} {k n : Nat} {e : TypeId} (h : CodesIn lo w ov vs ks) (hvs : vs.length = k) (hk : k < ks.length)
    (hown : w.ownsRow lo e 1 ov n vs) (hb1 : Below w.heap.size w w1) (hc : CodeIn (fun b => w.heap.size ≤ b ∧ b < w1.heap.size) w1 v1 ks[k]) (hbW : Below w1.heap.size w1 W) (hW : w1.heap.size < W.heap.size) (hlo : lo ≤ w.heap.size)
    (hg : W.grownBy w2 ov.ownBlock) (hwh : v2.ownBlock = ov.ownBlock ∨ v2.ownBlock = some W.heap.size) : CodesIn lo w2 v2 (vs ++ [v1]) ks := by
  have hz1 := hb1.size
  have hz2 := hg.size
  have hlt : ∀ b, ov.ownBlock = some b → b < w.heap.size := fun b hb => (hown.lt b hb).2
  intro i v l hv hl
  by_cases hi : i < k
  · rw [List.getElem?_append_left (by omega)] at hv
    have := h i v l hv hl
    refine (((this.only (Only.new (S := fun _ => False) hb1) (by simp)).only ((Only.new (S := fun _ => False) (hbW.mono (Nat.le_refl _)))) (by simp)).only (only_grown hg) (by intro b hb; exact hb.2.2)).mono ?_
    intro b hb
    refine ⟨hb.1, by omega, ?_⟩
    rcases hwh with h | h <;> rw [h]
    · exact hb.2.2
    · intro e; have := Option.some.inj e; omega
  · rw [List.getElem?_append_right (by omega)] at hv
    have hik : i = k := by
      have := (List.getElem?_eq_some_iff.1 hv).1
      simp at this; omega
    subst hik
    rw [hvs] at hv
    simp at hv
    subst hv
    have : l = ks[i] := by rw [List.getElem?_eq_getElem hk] at hl; exact (Option.some.inj hl).symm
    subst this
    refine ((hc.only (Only.new (S := fun _ => False) hbW) (by simp)).only (only_grown hg) (by intro b hb e; have := hlt b e.symm; omega)).mono ?_
    intro b hb
    refine ⟨by omega, by omega, ?_⟩
    rcases hwh with h | h <;> rw [h]
    · intro e; have := hlt b e.symm; omega
    · intro e; have := Option.some.inj e; omega

set_option maxRecDepth 100000 in
set_option maxHeartbeats 1000000 in
theorem rModel_any (ents : Int) (b off cap : Nat) (ks : List (List Ins)) (w : World) (hl : ks.length ≤ 5864062014805) (hbw : b < w.heap.size) (hK : KindsAt w.heap.size w b off ks) :
    Calls Tryz.prog 63 #[.agg #[.int .i64 ents, .slice (some ⟨b, off, none⟩) ks.length cap]] w
      fun e w' => ∃ sa sc, e = .returned (.agg #[.int .i64 ents, .slice sa ks.length sc]) ∧ Below w.heap.size w w' ∧ KindsIn (fun b => w.heap.size ≤ b ∧ b < w'.heap.size) w' (.slice sa ks.length sc) ks := by
  go_enter Tryz.func63, Tryz.ntmps63
  go_wp2
  go_loopw [4, 5] (fun i _ wr => ∃ (k : Nat) (vs : List Value) (oa : Option Addr) (oc : Nat), k ≤ ks.length ∧ i = .int .i64 k ∧ Below w.heap.size w wr ∧ Hid (wr.ownsRow (w.heap.size + 1 + 1 + 1) 60 1 (.slice oa k oc) k vs) ∧
      CodesIn (w.heap.size + 1 + 1 + 1) wr (.slice oa k oc) vs ks ∧ wr.cell? ⟨w.heap.size + 1 + 1, 0, none⟩ = some (.int .i64 ents) ∧ wr.cell? ⟨w.heap.size + 1 + 1, 1, none⟩ = some (.slice oa k oc) ∧ Room wr (w.heap.size + 1 + 1) 2 ∧
      wr.cell? ⟨w.heap.size, 1, none⟩ = some (.slice (some ⟨b, off, none⟩) ks.length cap) ∧ Room wr (w.heap.size + 1) 2 ∧ w.heap.size + 1 + 1 < wr.heap.size) (fun i _ _ => ks.length - (intOf i).toNat)
  case atStart =>
    refine ⟨0, [], none, 0, by omega, rfl, (((Below.refl _ _).alloc (Nat.le_refl _) _).alloc (by simp) _).alloc (by simp; omega) _, World.ownsRow_nil _ _ _ _, by intro i v l hv; simp at hv, by simp [go_sem], by simp [go_sem], ?_, by simp [go_sem], ?_, by simp⟩
    · intro j hj; have : j = 0 ∨ j = 1 := by omega
      rcases this with rfl | rfl <;> simp [go_sem]
    · intro j hj; have : j = 0 ∨ j = 1 := by omega
      rcases this with rfl | rfl <;> simp [go_sem]
  case round =>
    obtain ⟨k, vs, oa, oc, hk, rfl, hbel, hown, hC, ho0, ho1, hR2, hm1, hR1, hz⟩ := hrel
    by_cases hlt : k < ks.length
    · obtain ⟨v, hv0, hv⟩ := (hK.below hbel hbw (Nat.le_refl _)) k ks[k] (by simp)
      have Hs := hide hv.src'
      have Hl := hide hv.1
      have hvs : vs.length = k := by simpa using hown.out.1
      have Hvs := hide hvs
      clear hvs
      go_wp2_with (at_builtin; refine wpList_append_src rfl (.tmp 16) (.tmp 21) 60 rfl wr.heap.size 59 (.agg #[.int .i64 0, .int .i64 0, .int .i64 0, .int .i64 0]) 4 32 Tryz.underlying60 Tryz.info59 rfl (by omega) _ 0 [] rfl (World.ownsRow_nil _ _ _ _) v ks[k].length (flat ks[k]) rfl Hs.out (flat_length _) (flat_one _) (by have := Hl.out; omega) (by have := Hl.out; omega) (by omega) ?_)
      intro v1 w1 hown1 hgr1 hwh1
      have hb1 : Below wr.heap.size wr w1 := (Below.refl _ _).grown hgr1.out (Nat.le_refl _) (by intro k hk; simp [Value.ownBlock] at hk)
      have hcode := owns_code (l := ks[k]) (by simpa using hown1.out) hv.1
      obtain ⟨sa, sc, rfl⟩ := hcode.form
      have HC := hide hcode
      clear hcode hown1 hgr1 hwh1
      have hg0 := below_at hb1 ho0 (by omega)
      have hg1 := below_at hb1 ho1 (by omega)
      have hz1 := hb1.size
      obtain ⟨hs1, hf1⟩ := (hR2.below hb1 (by omega)) 1 (by omega)
      clear hs1
      go_wp2_with (at_builtin; refine wpList_append_src rfl (.tmp 24) (.tmp 26) 36 rfl (w.heap.size + 1 + 1 + 1) 60 (.slice none 0 0) 1 24 Tryz.underlying36 Tryz.info60 rfl (by omega) _ k vs rfl ((own_kept hown.out hb1).alloc _) _ 1 [.slice sa ks[k].length sc] rfl (.inr (.inl ⟨w1.heap.size, 0, _, rfl, ?_⟩)) rfl (by simp [Value.oneCell']) (by omega) (by omega) (by simp; omega) ?_)
      · intro j u hu
        have : j = 0 := by have := (List.getElem?_eq_some_iff.1 hu).1; simp at this; omega
        subst this
        simp at hu; subst hu
        simp [go_sem]
      intro v2 w2 hown2 hgr2 hwh2
      obtain ⟨sa2, sc2, rfl⟩ := owns_form hown2.out
      have hbW := (Below.refl w1.heap.size w1).alloc (Nat.le_refl _) (.cells #[.slice sa ks[k].length sc] 60)
      have hst := hC.step Hvs.out hlt hown.out hb1 HC.out hbW (by simp) (by omega) hgr2.out (v2 := .slice sa2 (k + 1) sc2) (by have := hwh2.out; simpa using this)
      have hb2 : Below (w.heap.size + 1 + 1 + 1) w1 w2 := (hbW.mono (by omega)).grown hgr2.out (by simp; omega) (fun b hb => (hown.out.lt b hb).1)
      have hfz := hb2.frozen (p := ⟨w.heap.size + 1 + 1, 1, none⟩) (by simp)
      rw [hf1] at hfz
      have hg11 := below_at hb2 hg1 (by omega)
      have hz2 := hb2.size
      have HS := hide hst
      clear hst hf1
      go_wp2
      go_roundw
      case rel =>
        have hsz : (w2.setCell ⟨w.heap.size + 1 + 1, 1, none⟩ (.slice sa2 (k + 1) sc2)).heap.size = w2.heap.size := by simp [World.setCell]
        have ho : Only (· = w.heap.size + 1 + 1) w2 (w2.setCell ⟨w.heap.size + 1 + 1, 1, none⟩ (.slice sa2 (k + 1) sc2)) := Only.setCell (S := (· = w.heap.size + 1 + 1)) (Only.refl _ _) rfl _
        refine ⟨k + 1, vs ++ [.slice sa ks[k].length sc], sa2, sc2, by omega, by go_num, ((hbel.trans (hb1.mono (by omega))).trans (hb2.mono (by omega))).setCell (by simp; omega) _, ?_, ?_, ?_, ?_, ?_, ?_, ?_, ?_⟩
        · exact ownsRow_setCell_below hown2.out (by simp) _
        · intro i v l hv hl
          rw [hsz]
          exact (HS.out i v l hv hl).only ho (by intro b hb; omega)
        · rw [World.cell?_setCell_other _ _ _ _ (by simp)]; exact below_at hb2 hg0 (by omega)
        · exact World.cell?_setCell_same' _ _ _ (by rw [hg11]; rfl)
        · exact ((hR2.below hb1 (by omega)).below hb2 (by omega)).setCell _ _
        · rw [World.cell?_setCell_other _ _ _ _ (by simp; try omega)]; exact below_at hb2 (below_at hb1 hm1 (by omega)) (by omega)
        · exact ((hR1.below hb1 (by omega)).below hb2 (by omega)).setCell _ _
        · rw [hsz]; omega
      case measure => simp [intOf]; omega
    · have hk' : k = ks.length := by omega
      subst hk'
      obtain ⟨s1, f1⟩ := hR1 0 (by omega)
      obtain ⟨s2, f2⟩ := hR1 1 (by omega)
      obtain ⟨u1, hu1⟩ := Option.isSome_iff_exists.1 s1
      obtain ⟨u2, hu2⟩ := Option.isSome_iff_exists.1 s2
      clear s1 s2
      go_wp2
      refine bodyPost_ret (v := .agg #[.int .i64 ents, .slice oa ks.length oc]) (by simp [results, Tryz.results63, go_sem, hu1, hu2]) rfl ⟨_, _, rfl, (hbel.setCell (by simp) _).setCell (by simp) _, ?_⟩
      have ho : Only (· = w.heap.size + 1) wr _ := ((Only.refl (· = w.heap.size + 1) wr).setCell (p := ⟨w.heap.size + 1, 0, none⟩) rfl (.int .i64 ents)).setCell (p := ⟨w.heap.size + 1, 1, none⟩) rfl (.slice oa ks.length oc)
      have hsz : ((wr.setCell ⟨w.heap.size + 1, 0, none⟩ (.int .i64 ents)).setCell ⟨w.heap.size + 1, 1, none⟩ (.slice oa ks.length oc)).heap.size = wr.heap.size := by simp [World.setCell]
      rcases owns_row hown.out with ⟨hnil, h0, _⟩ | ⟨g, cap', hg, h1, h2, h3⟩
      · exact ⟨hl, .inl ⟨hnil, List.eq_nil_of_length_eq_zero h0⟩⟩
      · have hvl : vs.length = ks.length := by simpa using hown.out.1
        refine ⟨hl, .inr ⟨g, 0, cap', hg, by omega, ?_⟩⟩
        intro i l hil
        have hilt : i < ks.length := (List.getElem?_eq_some_iff.1 hil).1
        have hvi : vs[i]? = some vs[i] := by simp [hvl, hilt]
        exact ⟨_, ho.at (h3 i _ hvi) (by omega), ((hC i _ l hvi hil).only ho (by intro b hb; omega)).mono (by intro b hb; omega)⟩
end Go.Proofs.YtndlmgocldckfaaGreat

namespace Go.Proofs.YtndlmgocldckfaaGreat
open Go.RowKit

/-! The leaves: tests on numbers, of the document's answer and of the program. -/


set_option maxHeartbeats 400000 in
theorem in_any (n lo hi : Int) (w : World) :
    Calls Tryz.prog 57 #[.int .i64 n, .int .i64 lo, .int .i64 hi] w fun e w' => e = .returned (.bool (inB n lo hi)) ∧ w' = w := by
  by_cases h1 : lo ≤ n <;> by_cases h2 : n ≤ hi
  all_goals
    go_enter Tryz.func57, Tryz.ntmps57
    go_wp2
    go_ret
    exact ⟨by simp [inB, *], rfl⟩
set_option maxHeartbeats 400000 in
theorem value_any (n : Int) (w : World) :
    Calls Tryz.prog 99 #[.int .i64 n] w fun e w' => e = .returned (.bool (inB n (-1000000000) 1000000000)) ∧ w' = w := by
  go_enter Tryz.func99, Tryz.ntmps99
  go_wp2_with (go_at_call 57; refine (in_any _ _ _ _).mono ?_; rintro e w' ⟨rfl, rfl⟩)
  go_ret
  exact ⟨rfl, rfl⟩
set_option maxHeartbeats 400000 in
theorem register_any (n : Int) (w : World) :
    Calls Tryz.prog 95 #[.int .i64 n] w fun e w' => e = .returned (.bool (inB n 0 3)) ∧ w' = w := by
  go_enter Tryz.func95, Tryz.ntmps95
  go_wp2_with (go_at_call 57; refine (in_any _ _ _ _).mono ?_; rintro e w' ⟨rfl, rfl⟩)
  go_ret
  exact ⟨rfl, rfl⟩

set_option maxHeartbeats 1000000 in
theorem may_six (ents : Int) (sa : Option Addr) (nk cap : Nat) (a b c : Int) (w : World) (he : 1 ≤ ents) (he' : ents ≤ 8) (hk : nk ≤ 8) :
    Calls Tryz.prog 58 #[.agg #[.int .i64 ents, .slice sa nk cap], .agg #[.int .i64 6, .int .i64 a, .int .i64 b, .int .i64 c]] w
      fun e w' => e = .returned (.bool (mayF ents nk 6 a b c)) ∧ Below w.heap.size w w' := by
  go_enter Tryz.func58, Tryz.ntmps58
  go_wp2_with (first | (go_at_call 95; refine (register_any _ _).mono ?_; rintro e w' ⟨rfl, rfl⟩) | (go_at_call 57; refine (in_any _ _ _ _).mono ?_; rintro e w' ⟨rfl, rfl⟩))
  all_goals
    go_ret
    refine ⟨?_, ((Below.refl _ _).alloc (Nat.le_refl _) _).alloc (by simp) _⟩
    simp [mayF, *]

set_option maxHeartbeats 2000000 in
theorem may_other (ents : Int) (sa : Option Addr) (nk cap : Nat) (op a b c : Int) (w : World) (h6 : op ≠ 6) :
    Calls Tryz.prog 58 #[.agg #[.int .i64 ents, .slice sa nk cap], .agg #[.int .i64 op, .int .i64 a, .int .i64 b, .int .i64 c]] w
      fun e w' => e = .returned (.bool (mayF ents nk op a b c)) ∧ Below w.heap.size w w' := by
  have h6' : (op != 6) = true := by simpa using h6
  by_cases hc : c = 0
  · subst hc
    go_enter Tryz.func58, Tryz.ntmps58
    go_wp2_with (first | (go_at_call 95; refine (register_any _ _).mono ?_; rintro e w' ⟨rfl, rfl⟩) | (go_at_call 99; refine (value_any _ _).mono ?_; rintro e w' ⟨rfl, rfl⟩) | (go_at_call 57; refine (in_any _ _ _ _).mono ?_; rintro e w' ⟨rfl, rfl⟩))
    all_goals
      go_ret
      refine ⟨?_, ((Below.refl _ _).alloc (Nat.le_refl _) _).alloc (by simp) _⟩
      simp_all [mayF]
  · have hc' : (c != 0) = true := by simpa using hc
    go_enter Tryz.func58, Tryz.ntmps58
    go_wp2_with (first | (go_at_call 95; refine (register_any _ _).mono ?_; rintro e w' ⟨rfl, rfl⟩) | (go_at_call 99; refine (value_any _ _).mono ?_; rintro e w' ⟨rfl, rfl⟩) | (go_at_call 57; refine (in_any _ _ _ _).mono ?_; rintro e w' ⟨rfl, rfl⟩))
    go_ret
    refine ⟨?_, ((Below.refl _ _).alloc (Nat.le_refl _) _).alloc (by simp) _⟩
    simp_all [mayF]

theorem may_any (ents : Int) (sa : Option Addr) (nk cap : Nat) (op a b c : Int) (w : World) (he : 1 ≤ ents) (he' : ents ≤ 8) (hk : nk ≤ 8) :
    Calls Tryz.prog 58 #[.agg #[.int .i64 ents, .slice sa nk cap], .agg #[.int .i64 op, .int .i64 a, .int .i64 b, .int .i64 c]] w
      fun e w' => e = .returned (.bool (mayF ents nk op a b c)) ∧ Below w.heap.size w w' := by
  by_cases h6 : op = 6
  · subst h6; exact may_six ents sa nk cap a b c w he he' hk
  · exact may_other ents sa nk cap op a b c w h6

end Go.Proofs.YtndlmgocldckfaaGreat

namespace Go.Proofs.YtndlmgocldckfaaGreat
open Go.RowKit
set_option linter.unusedVariables false
set_option linter.unusedSimpArgs false

set_option maxHeartbeats 400000 in
theorem rCheck_no (ents : Int) (sa : Option Addr) (nk cap : Nat) (w : World) (hno : (!inB ents 1 8 || !inB nk 1 8) = true) :
    Calls Tryz.prog 23 #[.agg #[.int .i64 ents, .slice sa nk cap]] w
      fun e w' => e = .returned (.tuple #[.int .i64 2, .int .i64 0, .int .i64 0]) ∧ Below w.heap.size w w' := by
  rcases h1 : inB ents 1 8 with _ | _ <;> rcases h2 : inB nk 1 8 with _ | _
  case true.true => simp [h1, h2] at hno
  all_goals
    clear hno
    go_enter Tryz.func23, Tryz.ntmps23
    go_wp2_with (go_at_call 57; refine (in_any _ _ _ _).mono ?_; rintro e w' ⟨rfl, rfl⟩)
    go_ret3
    exact ⟨rfl, (Below.refl _ _).alloc (Nat.le_refl _) _⟩

set_option maxHeartbeats 800000 in
theorem rCheck_yes (ents : Int) (b off cap : Nat) (ks : List (List Ins)) (w : World) (he : 1 ≤ ents) (he' : ents ≤ 8) (hk : 1 ≤ ks.length) (hk' : ks.length ≤ 8)
    (hbw : b < w.heap.size) (hK : KindsAt w.heap.size w b off ks) :
    Calls Tryz.prog 23 #[.agg #[.int .i64 ents, .slice (some ⟨b, off, none⟩) ks.length cap]] w
      fun e w' => e = .returned (checkV ents ks) ∧ Below w.heap.size w w' := by
  have h1 : inB ents 1 8 = true := by simp [inB]; omega
  have h2 : inB ks.length 1 8 = true := by simp [inB]; omega
  have hF : Hid (kindF ents ks = firstKind ents ks.length ks 0) := by show _ = _; simp [kindF, h1, h2]
  go_enter Tryz.func23, Tryz.ntmps23
  go_wp2_with (go_at_call 57; refine (in_any _ _ _ _).mono ?_; rintro e w' ⟨rfl, rfl⟩)
  go_loopw [7, 8, 9] (fun i _ _ wr => ∃ n : Nat, n ≤ ks.length ∧ i = .int .i64 n ∧ Hid (firstKind ents ks.length (ks.drop n) n = firstKind ents ks.length ks 0) ∧ Below w.heap.size w wr ∧ wr.cell? ⟨w.heap.size, 0, none⟩ = some (.int .i64 ents) ∧ wr.cell? ⟨w.heap.size, 1, none⟩ = some (.slice (some ⟨b, off, none⟩) ks.length cap) ∧ w.heap.size < wr.heap.size) (fun i _ _ _ => ks.length - (intOf i).toNat)
  case atStart => exact ⟨0, Nat.zero_le _, rfl, rfl, (Below.refl _ _).alloc (Nat.le_refl _) _, by simp [go_sem], by simp [go_sem], by simp⟩
  case round =>
    obtain ⟨n, hn, rfl, hfb, hbel, hc0, hc1, hsz⟩ := hrel
    by_cases hlt : n < ks.length
    · have hKr := hK.below hbel hbw (Nat.le_refl _)
      obtain ⟨v, hv0, hv⟩ := hKr n ks[n] (by simp)
      have hd := firstKind_drop (ents := ents) (nk := ks.length) hlt
      generalize ks[n] = l at hv hd
      obtain ⟨hl, hv'⟩ := hv
      obtain ⟨sb, sc, rfl⟩ : ∃ sb sc, v = .slice sb l.length sc := by
        obtain ⟨rfl, rfl⟩ | ⟨b', off', cap', rfl, hb', hc'⟩ | ⟨va, vc, rfl, rfl⟩ := hv'
        · exact ⟨_, _, rfl⟩
        · exact ⟨_, _, rfl⟩
        · exact ⟨_, _, rfl⟩
      by_cases hl16 : l.length ≤ 16
      · have h16 : decide (16 < (l.length : Int)) = false := by simp; omega
        have hFc : codeF ents ks.length l = firstBad ents ks.length l 0 := by rw [codeF, if_neg (by omega)]
        rw [hFc] at hd
        have HD := hide hd
        clear hd hFc
        obtain ⟨w1, hw1⟩ : ∃ w1, w1 = wr := ⟨_, rfl⟩
        subst hw1
        go_wp2
        go_loopw [8, 9] (fun j _ w2 => ∃ m : Nat, m ≤ l.length ∧ j = .int .i64 m ∧ Hid (firstBad ents ks.length (l.drop m) m = firstBad ents ks.length l 0) ∧ Below w1.heap.size w1 w2) (fun j _ _ => l.length - (intOf j).toNat)
        case atStart => exact ⟨0, Nat.zero_le _, rfl, rfl, Below.refl _ _⟩
        case round =>
          obtain ⟨m, hm, rfl, hfm, hbel2⟩ := hrel
          have gc0 := below_at hbel2 hc0 hsz
          have gc1 := below_at hbel2 hc1 hsz
          have gv0 := below_at hbel2 hv0 (Nat.lt_trans hbw hsz)
          by_cases hlm : m < l.length
          · obtain ⟨_, rfl⟩ | ⟨b', off', cap', hsb, hb', hc'⟩ | ⟨va, vc, _, rfl⟩ := hv'
            rotate_left
            · simp only [Value.slice.injEq] at hsb
              obtain ⟨rfl, -, rfl⟩ := hsb
              obtain ⟨hx0, hx1, hx2, hx3⟩ := (hc'.below hbel2 (Nat.lt_trans hb' hsz)) m l[m] (by simp)
              have hbz : w.heap.size < wr.heap.size := by have := hbel2.size; omega
              have hdm := firstBad_drop (ents := ents) (nk := ks.length) hlm
              have HT : Hid (mayF ents ks.length l[m].op l[m].a l[m].b l[m].c = true → firstBad ents ks.length (l.drop (m + 1)) (m + 1) = firstBad ents ks.length l 0) := by
                intro h; rw [← hfm.out, hdm, if_pos h]
              have HN : Hid (¬ mayF ents ks.length l[m].op l[m].a l[m].b l[m].c = true → kindF ents ks = some (n, m)) := by
                intro h
                rw [if_neg h, hfm.out] at hdm
                rw [hF.out, ← hfb.out, HD.out, hdm]
              clear hdm hc' hv0 hc0 hc1
              go_wp2
              go_region_with (go_at_call 58; refine (may_any _ _ _ _ _ _ _ _ _ he he' hk').mono ?_; rintro e w3 ⟨rfl, hb3⟩)
              all_goals
                have hb4 : Below wr.heap.size wr w3 := ((Below.refl _ _).drew).trans hb3
                clear hb3
                go_wp2
                · go_ret3
                  exact ⟨by simp [checkV, HN.out (by simp_all)], hbel.trans ((hbel2.mono (by omega)).trans (hb4.mono (by omega)))⟩
                · go_roundw
                  case rel => exact ⟨m + 1, by omega, by go_num, HT.out (by simp_all), hbel2.trans (hb4.mono (by have := hbel2.size; omega))⟩
                  case measure => simp [intOf]; omega
            · simp at hlm
            · simp at hlm
          · have hdm : Hid (firstKind ents ks.length (ks.drop (n + 1)) (n + 1) = firstKind ents ks.length ks 0) := by
              show _ = _
              have := HD.out
              have hl0 : l.drop m = [] := List.drop_of_length_le (by omega)
              rw [← hfm.out, hl0] at this
              rw [← hfb.out, this]; rfl
            go_wp2
            go_roundw
            case rel => exact ⟨n + 1, by omega, by go_num, hdm, hbel.trans (hbel2.mono (by omega)), gc0, gc1, by have := hbel2.size; omega⟩
            case measure => simp [intOf]; omega
      · have h16 : decide (16 < (l.length : Int)) = true := by simp; omega
        have hd' : Hid (kindF ents ks = some (n, 0)) := by
          show _ = _; rw [codeF, if_pos (by omega)] at hd; rw [hF.out, ← hfb.out, hd]
        clear hd
        go_wp2
        go_ret3
        exact ⟨by simp [checkV, hd'.out], hbel⟩
    · have hd' : Hid (kindF ents ks = none) := by
        show _ = _; rw [hF.out, ← hfb.out, List.drop_of_length_le (by omega)]; rfl
      go_wp2
      go_ret3
      exact ⟨by simp [checkV, hd'.out], hbel⟩

theorem rCheck_any (ents : Int) (v : Value) (ks : List (List Ins)) (w : World) (hv : KindsV w.heap.size w v ks) :
    Calls Tryz.prog 23 #[.agg #[.int .i64 ents, v]] w
      fun e w' => e = .returned (checkV ents ks) ∧ Below w.heap.size w w' := by
  rcases hno : (!inB ents 1 8 || !inB ks.length 1 8) with _ | _
  · simp [inB] at hno
    obtain ⟨_, ⟨rfl, rfl⟩ | ⟨b, off, cap', rfl, hb, hc⟩ | ⟨va, vc, rfl, rfl⟩⟩ := hv
    rotate_left
    · exact rCheck_yes ents b off cap' ks w (by omega) (by omega) (by omega) (by omega) hb hc
    · simp at hno
    · simp at hno
  · have hV : checkV ents ks = .tuple #[.int .i64 2, .int .i64 0, .int .i64 0] := by simp [checkV, kindF, hno]
    rw [hV]
    obtain ⟨_, ⟨rfl, rfl⟩ | ⟨b, off, cap', rfl, hb, hc⟩ | ⟨va, vc, rfl, rfl⟩⟩ := hv
    · exact rCheck_no ents none 0 0 w (by simpa using hno)
    · exact rCheck_no ents _ ks.length cap' w hno
    · exact rCheck_no ents _ 0 vc w (by simpa using hno)

end Go.Proofs.YtndlmgocldckfaaGreat

namespace Go.Proofs.YtndlmgocldckfaaGreat
open Go.RowKit
set_option linter.unusedVariables false
set_option linter.unusedSimpArgs false

theorem eqlNilI (w : World) (a : Option Addr) (n c : Nat) : (binOp .eql 24 (.slice a n c) (.slice none 0 0)).run Tryz.prog w = .ok (.bool a.isNone) w := Lib.run_eql_slice_nil w _ _ a n c 0 0 Tryz.underlying24
theorem eqlNilC (w : World) (a : Option Addr) (n c : Nat) : (binOp .eql 60 (.slice a n c) (.slice none 0 0)).run Tryz.prog w = .ok (.bool a.isNone) w := Lib.run_eql_slice_nil w _ _ a n c 0 0 Tryz.underlying60
theorem eqlNilK (w : World) (a : Option Addr) (n c : Nat) : (binOp .eql 36 (.slice a n c) (.slice none 0 0)).run Tryz.prog w = .ok (.bool a.isNone) w := Lib.run_eql_slice_nil w _ _ a n c 0 0 Tryz.underlying36
attribute [local go_sem] eqlNilI eqlNilC eqlNilK
set_option maxHeartbeats 400000 in
theorem lentInts_nil (w : World) : Calls Tryz.prog 25 #[.slice none 0 0] w fun e w' => e = .returned (.slice none 0 0) ∧ w' = w := by
  go_enter Tryz.func25, Tryz.ntmps25
  go_wp2
  go_ret
  exact ⟨rfl, rfl⟩

/-- What is lent: the numbers, and 77 eight times. -/
def lentI (l : List Int) : List Value := ints l ++ List.replicate 8 (Value.int .i64 77)

theorem lentI_room (l : List Int) (k : Nat) (h1 : l.length ≤ k) (h2 : k < l.length + 8) : (lentI l)[k]? = some (.int .i64 77) := by
  rw [lentI, List.getElem?_append_right (by simpa [ints] using h1), List.getElem?_replicate, if_pos (by simp [ints]; omega)]
theorem lentI_elem (l : List Int) (k : Nat) (h : k < l.length) : (lentI l)[k]? = some (.int .i64 l[k]) := by
  rw [lentI, List.getElem?_append_left (by simpa [ints] using h)]; simp [ints, h]
theorem lentI_length (l : List Int) : (lentI l).length = l.length + 8 := by simp [lentI, ints]

set_option maxRecDepth 100000 in
set_option maxHeartbeats 400000 in
theorem lentInts_at (ad : Addr) (cap : Nat) (l : List Int) (w : World) (hl : l.length ≤ 17592186044416) (hc : ∀ j v, (ints l)[j]? = some v → w.cell? (ad.add j) = some v) :
    Calls Tryz.prog 25 #[.slice (some ad) l.length cap] w fun e w' => ∃ g, w.heap.size ≤ g ∧ g < w'.heap.size ∧ e = .returned (.slice (some ⟨g, 0, none⟩) l.length (l.length + 8)) ∧
      Below w.heap.size w w' ∧ RowAt w' g 0 (lentI l) ∧ Room w' g (l.length + 8) := by
  go_enter Tryz.func25, Tryz.ntmps25
  go_wp2_with (first
    | (at_make; refine wpList_make_alloc _ rfl _ _ 24 rfl 3 (.int .i64 0) 1 8 Tryz.underlying24 Tryz.info3 _ _ _ _ (l.length + 8) rfl rfl (by simp) (by simp) (by omega) (by omega) ?_)
    | (refine wpList_copy_cells rfl (.tmp 13) (.tmp 14) 24 24 rfl 3 Tryz.underlying24 1 Tryz.size3 w.heap.size _ _ _ _ _ rfl rfl (by simp) _ 3 (heap_new _ _) (ints l) (by simp [ints]) ?_ ?_ ?_ ?_))
  case refine_1 => intro j v hv; exact (((Below.refl _ _).alloc (Nat.le_refl _) _).cell (lt_of_cellA (hc j v hv))).trans (hc j v hv)
  case refine_2 => simp [ints, size_madeCells]
  case refine_3 => intro v hv; simp [ints] at hv; obtain ⟨x, _, rfl⟩ := hv; rfl
  intro w1 hon hrow hroom hsz
  rw [size_madeCells] at hroom
  have hb1 : Below w.heap.size w w1 := ((Below.refl _ _).alloc (Nat.le_refl _) _).trans (hon.below (by simp) (fun k hk => by omega))
  have hlen : (lentI l).length = l.length + 8 := by simp [lentI, ints]
  have Hlen := hide hlen
  clear hlen hon
  have hz : w.heap.size < w1.heap.size := by rw [hsz]; simp
  clear hsz
  go_wp2
  go_loopw [5] (fun i wr => ∃ k : Nat, l.length ≤ k ∧ k ≤ l.length + 8 ∧ i = .int .i64 k ∧ Below w.heap.size w wr ∧ RowAt wr w.heap.size 0 ((lentI l).take k) ∧ Room wr w.heap.size (l.length + 8) ∧ w.heap.size < wr.heap.size) (fun i _ => l.length + 8 - (intOf i).toNat)
  case atStart => exact ⟨l.length, Nat.le_refl _, by omega, rfl, hb1, by rw [lentI, List.take_left' (by simp [ints])]; exact hrow, hroom, hz⟩
  case round =>
    obtain ⟨k, hk1, hk2, rfl, hbel, hrw, hrm, hzr⟩ := hrel
    clear hrow hroom hb1 hz
    by_cases hlt : k < l.length + 8
    · obtain ⟨hs, hf⟩ := hrm k hlt
      obtain ⟨u, hu⟩ := Option.isSome_iff_exists.1 hs
      go_wp2
      go_roundw
      case rel =>
        refine ⟨k + 1, by omega, by omega, by go_num, hbel.setCell (by simp) _, ?_, hrm.setCell _ _, by simp [World.setCell]; omega⟩
        have := RowAt.snoc (X := lentI l) (b := w.heap.size) (off := 0) (w := wr) (n := k) (by rw [Hlen.out]; exact hlt) hrw (.int .i64 77) (lentI_room l k hk1 hlt) (by simpa using hs)
        simpa using this
      case measure => simp [intOf]; omega
    · have hk : k = l.length + 8 := by omega
      rw [List.take_of_length_le (by rw [Hlen.out]; omega)] at hrw
      go_wp2
      go_ret
      exact ⟨w.heap.size, Nat.le_refl _, hzr, by simp, hbel, hrw, hrm⟩

theorem lentInts_some (b off cap : Nat) (l : List Int) (w : World) (hl : l.length ≤ 17592186044416) (hc : RowAt w b off (ints l)) :
    Calls Tryz.prog 25 #[.slice (some ⟨b, off, none⟩) l.length cap] w fun e w' => ∃ g, w.heap.size ≤ g ∧ g < w'.heap.size ∧ e = .returned (.slice (some ⟨g, 0, none⟩) l.length (l.length + 8)) ∧
      Below w.heap.size w w' ∧ RowAt w' g 0 (lentI l) ∧ Room w' g (l.length + 8) :=
  lentInts_at ⟨b, off, none⟩ cap l w hl (fun j v hv => by rw [Addr.add_lit]; exact hc j v hv)

/-- What the caller writes into what it lent. -/
def onesI (n : Nat) : List Value := List.replicate n (Value.int .i64 1)

set_option maxRecDepth 100000 in
set_option maxHeartbeats 400000 in
theorem wholeInts_gen (ad : Addr) (b off cap g cap' : Nat) (l : List Int) (w : World) (had : 0 < l.length → ad = ⟨b, off, none⟩) (hl : l.length ≤ 17592186044416) (hc : RowAt w b off (ints l)) (hbg : b ≠ g) (hr : RowAt w g 0 (lentI l)) (hm : Room w g (l.length + 8)) :
    Calls Tryz.prog 28 #[.slice (some ⟨g, 0, none⟩) l.length (l.length + 8), .slice (some ad) l.length cap] w fun e w' => e = .returned (.bool true) ∧ Only (· = g) w w' := by
  go_enter Tryz.func28, Tryz.ntmps28
  go_wp2

  go_loopw [7, 8, 9] (fun ok i _ wr => ∃ k : Nat, k ≤ l.length + 8 ∧ i = .int .i64 k ∧ ok = .bool true ∧ Only (· = g) w wr ∧ RowAt wr g k ((lentI l).drop k) ∧ Room wr g (l.length + 8)) (fun _ i _ _ => l.length + 8 - (intOf i).toNat)
  case atStart => exact ⟨0, by omega, rfl, rfl, Only.refl _ _, by simpa using hr, hm⟩
  case round =>
    obtain ⟨k, hk, rfl, rfl, hon, hrw, hrm⟩ := hrel
    by_cases hlt : k < l.length + 8
    · obtain ⟨hs, hf⟩ := hrm k hlt
      have hnext : RowAt (wr.setCell ⟨g, k, none⟩ (.int .i64 1)) g (k + 1) ((lentI l).drop (k + 1)) := by
        intro j v hv
        rw [World.cell?_setCell_other _ _ _ _ (by simp; try omega)]
        have := hrw (j + 1) v (by rw [List.getElem?_drop] at hv ⊢; rw [← hv]; congr 1; omega)
        rw [← this]; congr 2; omega
      have Hn := hide hnext
      clear hnext hr hm
      by_cases hl2 : k < l.length
      · obtain rfl := had (by omega)
        have hu : wr.cell? ⟨g, k, none⟩ = some (.int .i64 l[k]) := hrw 0 _ (by rw [List.getElem?_drop]; simpa using lentI_elem l k hl2)
        have hx : wr.cell? ⟨b, off + k, none⟩ = some (.int .i64 l[k]) := hon.at (hc k _ (by simp [ints, hl2])) hbg
        go_wp2
        go_roundw
        case rel => exact ⟨k + 1, by omega, by go_num, rfl, hon.setCell rfl _, Hn.out, hrm.setCell _ _⟩
        case measure => simp [intOf]; omega
      · have hu : wr.cell? ⟨g, k, none⟩ = some (.int .i64 77) := hrw 0 _ (by rw [List.getElem?_drop]; simpa using lentI_room l k (by omega) hlt)
        go_wp2
        go_roundw
        case rel => exact ⟨k + 1, by omega, by go_num, rfl, hon.setCell rfl _, Hn.out, hrm.setCell _ _⟩
        case measure => simp [intOf]; omega
    · go_wp2
      go_ret
      exact ⟨rfl, hon⟩

theorem wholeInts_some (b off cap g cap' : Nat) (l : List Int) (w : World) (hl : l.length ≤ 17592186044416) (hc : RowAt w b off (ints l)) (hbg : b ≠ g) (hr : RowAt w g 0 (lentI l)) (hm : Room w g (l.length + 8)) :
    Calls Tryz.prog 28 #[.slice (some ⟨g, 0, none⟩) l.length (l.length + 8), .slice (some ⟨b, off, none⟩) l.length cap] w fun e w' => e = .returned (.bool true) ∧ Only (· = g) w w' :=
  wholeInts_gen ⟨b, off, none⟩ b off cap g cap' l w (fun _ => rfl) hl hc hbg hr hm

set_option maxHeartbeats 400000 in
theorem wholeInts_nil (v : Value) (w : World) : Calls Tryz.prog 28 #[v, .slice none 0 0] w fun e w' => e = .returned (.bool true) ∧ w' = w := by
  go_enter Tryz.func28, Tryz.ntmps28
  go_wp2
  go_ret
  exact ⟨rfl, rfl⟩
end Go.Proofs.YtndlmgocldckfaaGreat

namespace Go.Proofs.YtndlmgocldckfaaGreat
open Go.RowKit
set_option linter.unusedVariables false
set_option linter.unusedSimpArgs false

def evIns (x : Ev) : Ins := ⟨x.time, x.number, x.kind, x.entity⟩
/-- Events as they lie: four numbers each. -/
def EvsIn (R : Nat → Prop) (w : World) (v : Value) (q : List Ev) : Prop :=
  (v = .slice none 0 0 ∧ q = []) ∨ ∃ b off cap, v = .slice (some ⟨b, off, none⟩) q.length cap ∧ q.length ≤ cap ∧ cap ≤ 9223372036854775807 ∧ R b ∧ CodeAt w b off (q.map evIns)
theorem EvsIn.mono {R R' : Nat → Prop} {w : World} {v : Value} {q : List Ev} (h : EvsIn R w v q) (hR : ∀ b, R b → R' b) : EvsIn R' w v q := by
  obtain h | ⟨b, off, cap, rfl, hl, hm, hb, hc⟩ := h
  · exact .inl h
  · exact .inr ⟨b, off, cap, rfl, hl, hm, hR b hb, hc⟩
theorem EvsIn.only {R S : Nat → Prop} {w w' : World} {v : Value} {q : List Ev} (h : EvsIn R w v q) (ho : Only S w w') (hR : ∀ b, R b → ¬ S b) : EvsIn R w' v q := by
  obtain h | ⟨b, off, cap, rfl, hl, hm, hb, hc⟩ := h
  · exact .inl h
  · exact .inr ⟨b, off, cap, rfl, hl, hm, hb, hc.only ho (hR b hb)⟩
theorem EvsIn.form {R : Nat → Prop} {w : World} {v : Value} {q : List Ev} (h : EvsIn R w v q) : ∃ sa sc, v = .slice sa q.length sc := by
  obtain ⟨rfl, rfl⟩ | ⟨b, off, cap, rfl, _⟩ := h
  · exact ⟨_, _, rfl⟩
  · exact ⟨_, _, rfl⟩

/-- The document's kernel. -/
structure RefK (R : Nat → Prop) (w : World) (rb : Nat) (ents : Int) (ks : List (List Ins)) (draws : List Int) (taken clock next : Int) (regs : List Int) (q : List Ev) : Prop where
  body : ∃ kv dv rv qv, w.cell? ⟨rb, 0, none⟩ = some (.int .i64 ents) ∧ w.cell? ⟨rb, 1, none⟩ = some kv ∧ w.cell? ⟨rb, 2, none⟩ = some dv ∧ w.cell? ⟨rb, 3, none⟩ = some (.int .i64 taken) ∧ w.cell? ⟨rb, 4, none⟩ = some (.int .i64 clock) ∧
    w.cell? ⟨rb, 5, none⟩ = some (.int .i64 next) ∧ w.cell? ⟨rb, 6, none⟩ = some rv ∧ w.cell? ⟨rb, 7, none⟩ = some qv ∧ KindsIn R w kv ks ∧ IntsIn R w dv draws ∧ IntsIn R w rv regs ∧ EvsIn R w qv q
  room : Room w rb 8

def drawB' (n : Int) : Bool := inB n 0 1000000000
/-- May these be draws? -/
def drawsR (l : List Int) : Bool := decide (l.length ≤ 1000) && l.all drawB'

set_option maxHeartbeats 400000 in
theorem rNew_model (ents : Int) (v dv : Value) (ks : List (List Ins)) (w : World) (hv : KindsV w.heap.size w v ks) (p : Nat × Nat) (hk : kindF ents ks = some p) :
    Calls Tryz.prog 27 #[.agg #[.int .i64 ents, v], dv] w
      fun e w' => e = .returned (.tuple #[.pointer none, .int .i64 2]) ∧ Below w.heap.size w w' := by
  have hV : checkV ents ks = .tuple #[.int .i64 2, .int .i64 p.1, .int .i64 p.2] := by simp [checkV, hk]
  have HV := hide hV
  clear hV hk
  go_enter Tryz.func27, Tryz.ntmps27
  go_wp2_with fail
  refine (rCheck_any ents v ks _ ((hv.below ((Below.refl _ _).alloc (Nat.le_refl _) _)).mono (by simp))).mono ?_
  rintro e w1 ⟨rfl, hb1⟩
  rw [HV.out]
  go_wp2
  go_ret2
  exact ⟨rfl, ((Below.refl _ _).alloc (Nat.le_refl _) _).trans (hb1.mono (by simp))⟩

theorem all_take {l : List Int} {k : Nat} (h : k < l.length) (ha : ∀ x ∈ l.take k, drawB' x = true) (hx : drawB' l[k] = true) : ∀ x ∈ l.take (k + 1), drawB' x = true := by
  intro x hm
  rw [List.take_succ_eq_append_getElem h] at hm
  rcases List.mem_append.1 hm with h1 | h1
  · exact ha x h1
  · simp at h1; subst h1; exact hx

theorem ints_replicate (n : Nat) : List.replicate n (Value.int .i64 0) = ints (List.replicate n 0) := by simp [ints]

theorem refK_new (X : World) (lo rb : Nat) (T : TypeId) (ents : Int) (kv dv rv : Value) (ks : List (List Ins)) (draws regs : List Int) (hrb : rb = X.heap.size) (hlo : lo ≤ X.heap.size)
    (hk : KindsIn (fun b => lo ≤ b ∧ b < X.heap.size) X kv ks) (hd : IntsIn (fun b => lo ≤ b ∧ b < X.heap.size) X dv draws) (hr : IntsIn (fun b => lo ≤ b ∧ b < X.heap.size) X rv regs) :
    RefK (fun b => lo ≤ b ∧ b < (X.alloc (.cells #[.int .i64 ents, kv, dv, .int .i64 0, .int .i64 0, .int .i64 1, rv, .slice none 0 0] T)).heap.size ∧ b ≠ rb) (X.alloc (.cells #[.int .i64 ents, kv, dv, .int .i64 0, .int .i64 0, .int .i64 1, rv, .slice none 0 0] T)) rb ents ks draws 0 0 1 regs [] := by
  subst hrb
  have hb := (Below.refl X.heap.size X).alloc (Nat.le_refl _) (.cells #[.int .i64 ents, kv, dv, .int .i64 0, .int .i64 0, .int .i64 1, rv, .slice none 0 0] T)
  have ho := Only.new (S := fun _ => False) hb
  have hat : ∀ i, (X.alloc (.cells #[.int .i64 ents, kv, dv, .int .i64 0, .int .i64 0, .int .i64 1, rv, .slice none 0 0] T)).cell? ⟨X.heap.size, i, none⟩ = _ := fun i => World.cell?_alloc_at _ _ _ _ rfl
  have hR : ∀ b, lo ≤ b ∧ b < X.heap.size → lo ≤ b ∧ b < (X.alloc (.cells #[.int .i64 ents, kv, dv, .int .i64 0, .int .i64 0, .int .i64 1, rv, .slice none 0 0] T)).heap.size ∧ b ≠ X.heap.size := by intro b hb; simp; omega
  refine ⟨⟨kv, dv, rv, .slice none 0 0, (hat 0).trans rfl, (hat 1).trans rfl, (hat 2).trans rfl, (hat 3).trans rfl, (hat 4).trans rfl, (hat 5).trans rfl, (hat 6).trans rfl, (hat 7).trans rfl, (hk.only ho (by simp)).mono hR, (hd.only ho (by simp)).mono hR, (hr.only ho (by simp)).mono hR, (.inl ⟨rfl, rfl⟩)⟩, ?_⟩
  intro j hj
  rw [hat, World.frozen?_alloc_at _ _ _ _ rfl]
  have : j = 0 ∨ j = 1 ∨ j = 2 ∨ j = 3 ∨ j = 4 ∨ j = 5 ∨ j = 6 ∨ j = 7 := by omega
  rcases this with rfl | rfl | rfl | rfl | rfl | rfl | rfl | rfl <;> exact ⟨rfl, rfl⟩

theorem refK_endA {w wr w3 : World} {ents : Int} {kv : Value} {dv : Value} {ks : List (List Ins)} {draws : List Int} (hbb : Below w.heap.size w wr) (hb3 : Below wr.heap.size wr w3)
    (hK3 : KindsIn (fun b => wr.heap.size ≤ b ∧ b < w3.heap.size) w3 kv ks) (hd : IntsIn (fun b => w.heap.size ≤ b ∧ b < wr.heap.size) wr dv draws) (m : Nat) (T : TypeId) (hm : m ≤ 17592186044416) :
    Below w.heap.size w ((w3.alloc (.cells (madeCells #[.int .i64 0] m) 3)).alloc (.cells #[.int .i64 ents, kv, dv, .int .i64 0, .int .i64 0, .int .i64 1, .slice (some ⟨w3.heap.size, 0, none⟩) m m, .slice none 0 0] T)) ∧ w.heap.size ≤ w3.heap.size + 1 ∧
    w3.heap.size + 1 < ((w3.alloc (.cells (madeCells #[.int .i64 0] m) 3)).alloc (.cells #[.int .i64 ents, kv, dv, .int .i64 0, .int .i64 0, .int .i64 1, .slice (some ⟨w3.heap.size, 0, none⟩) m m, .slice none 0 0] T)).heap.size ∧
    RefK (fun b => w.heap.size ≤ b ∧ b < ((w3.alloc (.cells (madeCells #[.int .i64 0] m) 3)).alloc (.cells #[.int .i64 ents, kv, dv, .int .i64 0, .int .i64 0, .int .i64 1, .slice (some ⟨w3.heap.size, 0, none⟩) m m, .slice none 0 0] T)).heap.size ∧ b ≠ w3.heap.size + 1)
      ((w3.alloc (.cells (madeCells #[.int .i64 0] m) 3)).alloc (.cells #[.int .i64 ents, kv, dv, .int .i64 0, .int .i64 0, .int .i64 1, .slice (some ⟨w3.heap.size, 0, none⟩) m m, .slice none 0 0] T)) (w3.heap.size + 1) ents ks draws 0 0 1 (List.replicate m 0) [] := by
  obtain ⟨X, hX⟩ : ∃ X, X = w3.alloc (.cells (madeCells #[.int .i64 0] m) 3) := ⟨_, rfl⟩
  have hXs : X.heap.size = w3.heap.size + 1 := by rw [hX]; simp
  have hXb : Below w3.heap.size w3 X := by rw [hX]; exact (Below.refl _ _).alloc (Nat.le_refl _) _
  have hz1 := hbb.size
  have hz3 := hb3.size
  have hr : IntsIn (fun b => w.heap.size ≤ b ∧ b < X.heap.size) X (.slice (some ⟨w3.heap.size, 0, none⟩) m m) (List.replicate m 0) := by
    refine ⟨by simpa using hm, .inr ⟨w3.heap.size, 0, m, by simp, by omega, ?_⟩⟩
    rw [hX, ← ints_replicate]
    exact row_made w3 _ m _
  rw [← hX]
  refine ⟨hbb.trans ((hb3.mono (by omega)).trans ((hXb.mono (by omega)).trans ((Below.refl _ _).alloc (by omega) _))), by omega, by simp [hXs], ?_⟩
  refine refK_new X w.heap.size _ T ents kv dv _ ks draws _ hXs.symm (by omega) ?_ ?_ hr
  · exact (hK3.only (Only.new (S := fun _ => False) hXb) (by simp)).mono (by intro b hb; omega)
  · exact ((hd.only (Only.new (S := fun _ => False) hb3) (by simp)).only (Only.new (S := fun _ => False) hXb) (by simp)).mono (by intro b hb; omega)
theorem refK_endB {w wr w3 : World} {ents : Int} {kv : Value} {dv : Value} {ks : List (List Ins)} {draws : List Int} {m : Nat} (hbb : Below w.heap.size w wr) (hb3 : Below (wr.heap.size + 1) (wr.alloc (.cells (madeCells #[.int .i64 0] m) 3)) w3)
    (hK3 : KindsIn (fun b => wr.heap.size + 1 ≤ b ∧ b < w3.heap.size) w3 kv ks) (hd : IntsIn (fun b => w.heap.size ≤ b ∧ b < wr.heap.size) wr dv draws) (T : TypeId) (hm : m ≤ 17592186044416) :
    Below w.heap.size w (w3.alloc (.cells #[.int .i64 ents, kv, dv, .int .i64 0, .int .i64 0, .int .i64 1, .slice (some ⟨wr.heap.size, 0, none⟩) m m, .slice none 0 0] T)) ∧ w.heap.size ≤ w3.heap.size ∧
    w3.heap.size < (w3.alloc (.cells #[.int .i64 ents, kv, dv, .int .i64 0, .int .i64 0, .int .i64 1, .slice (some ⟨wr.heap.size, 0, none⟩) m m, .slice none 0 0] T)).heap.size ∧
    RefK (fun b => w.heap.size ≤ b ∧ b < (w3.alloc (.cells #[.int .i64 ents, kv, dv, .int .i64 0, .int .i64 0, .int .i64 1, .slice (some ⟨wr.heap.size, 0, none⟩) m m, .slice none 0 0] T)).heap.size ∧ b ≠ w3.heap.size)
      (w3.alloc (.cells #[.int .i64 ents, kv, dv, .int .i64 0, .int .i64 0, .int .i64 1, .slice (some ⟨wr.heap.size, 0, none⟩) m m, .slice none 0 0] T)) w3.heap.size ents ks draws 0 0 1 (List.replicate m 0) [] := by
  have hz1 := hbb.size
  have hz3 := hb3.size
  rw [World.size_alloc] at hz3
  have hb0 := (Below.refl wr.heap.size wr).alloc (Nat.le_refl _) (.cells (madeCells #[.int .i64 0] m) 3)
  have hr : IntsIn (fun b => w.heap.size ≤ b ∧ b < w3.heap.size) w3 (.slice (some ⟨wr.heap.size, 0, none⟩) m m) (List.replicate m 0) := by
    refine ⟨by simpa using hm, .inr ⟨wr.heap.size, 0, m, by simp, by omega, ?_⟩⟩
    rw [← ints_replicate]
    exact (row_made wr _ m _).below hb3 (by omega)
  refine ⟨hbb.trans ((hb0.mono (by omega)).trans ((hb3.mono (by omega)).trans ((Below.refl _ _).alloc (by omega) _))), by omega, by simp, ?_⟩
  refine refK_new w3 w.heap.size _ T ents kv dv _ ks draws _ rfl (by omega) ?_ ?_ hr
  · exact hK3.mono (by intro b hb; omega)
  · exact ((hd.only (Only.new (S := fun _ => False) hb0) (by simp)).only (Only.ofBelow (S := fun k => wr.heap.size + 1 ≤ k) hb3 (fun k h _ => h)) (by intro b hb; omega)).mono (by intro b hb; omega)

theorem ints_take_succ {l : List Int} {k : Nat} (h : k < l.length) : ints (l.take k) ++ [.int .i64 l[k]] = ints (l.take (k + 1)) := by
  rw [List.take_succ_eq_append_getElem h, ints, ints, List.map_append]; rfl

set_option maxRecDepth 100000 in
set_option maxHeartbeats 1000000 in
theorem rNew_rest (ents : Int) (b off cap : Nat) (dv : Value) (ks : List (List Ins)) (draws : List Int) (w : World) (hl : ks.length ≤ 5864062014805) (hbw : b < w.heap.size) (hK : KindsAt w.heap.size w b off ks) (hd : IntsIn (· < w.heap.size) w dv draws) (hk : kindF ents ks = none) :
    Calls Tryz.prog 27 #[.agg #[.int .i64 ents, .slice (some ⟨b, off, none⟩) ks.length cap], dv] w
      fun e w' => (drawsR draws = false ∧ e = .returned (.tuple #[.pointer none, .int .i64 1]) ∧ Below w.heap.size w w') ∨ (drawsR draws = true ∧ ∃ rb, e = .returned (.tuple #[.pointer (some ⟨rb, 0, none⟩), .int .i64 0]) ∧ Below w.heap.size w w' ∧ w.heap.size ≤ rb ∧ rb < w'.heap.size ∧
        RefK (fun b => w.heap.size ≤ b ∧ b < w'.heap.size ∧ b ≠ rb) w' rb ents ks draws 0 0 1 (List.replicate (ents * 4).toNat 0) []) := by
  have hents : 1 ≤ ents ∧ ents ≤ 8 := by
    unfold kindF at hk
    split at hk
    · simp at hk
    · rename_i h; simp [inB] at h; omega
  obtain ⟨he1, he2⟩ := hents
  have HV : Hid (checkV ents ks = .tuple #[.int .i64 0, .int .i64 0, .int .i64 0]) := by show _ = _; simp [checkV, hk]
  clear hk
  have hmk : ∀ W : World, (Instr.makeSlice 24 (.int .i64 (ents * 4)) (.int .i64 (ents * 4))).run Tryz.prog W = .ok (.slice (some ⟨W.heap.size, 0, none⟩) (ents * 4).toNat (ents * 4).toNat) (W.alloc (.cells (madeCells #[.int .i64 0] (ents * 4).toNat) 3)) := by
    intro W
    obtain ⟨i, hi, hz, hsz, hby⟩ := info_parts Tryz.info3
    have := run_make (P := Tryz.prog) W 24 3 i (.int .i64 0) Tryz.underlying24 hi hz .i64 .i64 (ents * 4) (ents * 4) (by omega) (Int.le_refl _) (by rw [hby]; omega) (by omega)
    rw [hsz] at this
    simp only [Nat.mul_one] at this
    exact this
  have hwrap : IntKind.i64.wrap (ents * 4) = ents * 4 := by rw [IntKind.wrap_i64]; omega
  obtain ⟨da, dc, rfl⟩ := hd.form
  go_enter Tryz.func27, Tryz.ntmps27
  go_wp2_with fail
  have hv : KindsV w.heap.size w (.slice (some ⟨b, off, none⟩) ks.length cap) ks := ⟨hl, .inr (.inl ⟨b, off, cap, rfl, hbw, hK⟩)⟩
  refine (rCheck_any ents _ ks _ ((hv.below ((Below.refl _ _).alloc (Nat.le_refl _) _)).mono (by simp))).mono ?_
  rintro e w1 ⟨rfl, hb1⟩
  rw [HV.out]
  have hb2 : Below w.heap.size w w1 := ((Below.refl _ _).alloc (Nat.le_refl _) _).trans (hb1.mono (by simp))
  have hm0 : w1.cell? ⟨w.heap.size, 0, none⟩ = some (.int .i64 ents) := below_at hb1 (by simp [go_sem]) (by simp)
  have hm1 : w1.cell? ⟨w.heap.size, 1, none⟩ = some (.slice (some ⟨b, off, none⟩) ks.length cap) := below_at hb1 (by simp [go_sem]) (by simp)
  have hz1 : w.heap.size < w1.heap.size := by have := hb1.size; simp at this; omega
  clear hb1
  by_cases hlong : draws.length ≤ 1000
  · have h1000 : decide (1000 < (draws.length : Int)) = false := by simp; omega
    have HD : Hid (drawsR draws = draws.all drawB') := by show _ = _; simp [drawsR, hlong]
    go_wp2
    go_loopw [9, 10, 11] (fun lv i _ wr => ∃ (k : Nat) (oa : Option Addr) (oc : Nat), k ≤ draws.length ∧ i = .int .i64 k ∧ lv = .slice oa k oc ∧ Below w1.heap.size w1 wr ∧ Hid (wr.ownsRow w1.heap.size 3 1 (.slice oa k oc) k (ints (draws.take k))) ∧ Hid (∀ x ∈ draws.take k, drawB' x = true)) (fun _ i _ _ => draws.length - (intOf i).toNat)
    case atStart => exact ⟨0, none, 0, by omega, rfl, rfl, Below.refl _ _, World.ownsRow_nil _ _ _ _, by intro x hx; simp at hx⟩
    case round =>
      obtain ⟨k, oa, oc, hkl, rfl, rfl, hbel, hown, hall⟩ := hrel
      by_cases hlt : k < draws.length
      · obtain ⟨_, ⟨_, h0⟩ | ⟨db, doff, dcap, hde, hdb, hdr⟩⟩ := hd
        · rw [h0] at hlt; simp at hlt
        · simp only [Value.slice.injEq] at hde
          obtain ⟨rfl, -, rfl⟩ := hde
          have hx : wr.cell? ⟨db, doff + k, none⟩ = some (.int .i64 draws[k]) := below_at hbel (below_at hb2 (hdr k _ (by simp [ints, hlt])) hdb) (by omega)
          rcases hm : drawB' draws[k] with _ | _
          · have hm' : inB draws[k] 0 1000000000 = false := hm
            have HN : Hid (drawsR draws = false) := by
              show _ = _
              rw [HD.out]; simp only [List.all_eq_false]
              exact ⟨draws[k], by simp, by simp [hm]⟩
            clear hm
            go_wp2_with (go_at_call 57; refine (in_any _ _ _ _).mono ?_; rintro e w' ⟨rfl, rfl⟩)
            go_ret2
            exact .inl ⟨HN.out, rfl, hb2.trans (hbel.mono (by omega))⟩
          · have hm' : inB draws[k] 0 1000000000 = true := hm
            have Hm := hide hm
            clear hm
            go_wp2_with (first | (go_at_call 57; refine (in_any _ _ _ _).mono ?_; rintro e w' ⟨rfl, rfl⟩) | (at_builtin; refine wpList_append_src rfl (.tmp 37) (.tmp 42) 24 rfl w1.heap.size 3 (.int .i64 0) 1 8 Tryz.underlying24 Tryz.info3 rfl (by omega) _ k (ints (draws.take k)) rfl (hown.out.alloc _) _ 1 [.int .i64 draws[k]] rfl (.inr (.inl ⟨_, 0, _, rfl, ?_⟩)) rfl (by simp [Value.oneCell']) (by omega) (by omega) (by have := hbel.size; simp; omega) ?_))
            · intro j u hu
              have : j = 0 := by have := (List.getElem?_eq_some_iff.1 hu).1; simp at this; omega
              subst this
              simp at hu; subst hu
              simp [go_sem]
            intro v2 w2 hown2 hgr2 hwh2
            obtain ⟨sa2, sc2, rfl⟩ := owns_form hown2.out
            have hb3 : Below w1.heap.size w1 w2 := (hbel.alloc hbel.size _).grown hgr2.out (by have := hbel.size; simp; omega) (fun b hb => (hown.out.lt b hb).1)
            have hints : ints (draws.take k) ++ [.int .i64 draws[k]] = ints (draws.take (k + 1)) := ints_take_succ hlt
            rw [hints] at hown2
            clear hints
            go_wp2
            go_roundw
            case rel => exact ⟨k + 1, sa2, sc2, by omega, by go_num, rfl, hb3, hown2, all_take hlt hall.out Hm.out⟩
            case measure => simp [intOf]; omega
      · have hk' : k = draws.length := by omega
        subst hk'
        rw [List.take_length] at hown hall
        have HT : Hid (drawsR draws = true) := by show _ = _; rw [HD.out]; simpa using hall.out
        have hdr := owns_ints hown.out hd.1
        have Hdr := hide hdr
        have gm0 := below_at hbel hm0 hz1
        have gm1 := below_at hbel hm1 hz1
        have hbb := hb2.trans (hbel.mono (by omega))
        have hzr : w.heap.size < wr.heap.size := by have := hbel.size; omega
        have HK : Hid (∀ W, Below wr.heap.size wr W → KindsAt W.heap.size W b off ks) := by
          intro W hW
          have := hW.size
          exact (hK.below (hbb.trans (hW.mono (by omega))) hbw (Nat.le_refl _)).mono (by omega)
        clear hm0 hm1 hdr hall
        go_wp2
        go_region_with (go_at_call 63; refine (rModel_any ents b off cap ks _ hl (by simp; omega) (HK.out _ (by first | exact (Below.refl _ _).drew | exact ((Below.refl _ _).alloc (Nat.le_refl _) _).drew | exact ((Below.refl _ _).drew).alloc (Nat.le_refl _) _))).mono ?_; rintro e w3 ⟨sa, sc, rfl, hb3, hK3⟩; have q0 : w3.cell? ⟨w.heap.size, 0, none⟩ = some (.int .i64 ents) := below_at hb3 (by first | exact gm0 | exact below_at ((Below.refl _ _).alloc (Nat.le_refl _) _) gm0 hzr) (by simp; omega); have q1 : w3.cell? ⟨w.heap.size, 1, none⟩ = some (.slice (some ⟨b, off, none⟩) ks.length cap) := below_at hb3 (by first | exact gm1 | exact below_at ((Below.refl _ _).alloc (Nat.le_refl _) _) gm1 hzr) (by simp; omega))
        all_goals
          go_wp2
          go_ret2
          first
            | (have hb3' : Below wr.heap.size wr w3 := (Below.refl _ _).drew.trans hb3
               exact .inr ⟨HT.out, w3.heap.size + 1, by simp [Act.put], refK_endA hbb hb3' hK3 (Hdr.out.mono (by intro b hb; omega)) _ _ (by omega)⟩)
            | (have hb3' : Below (wr.heap.size + 1) (wr.alloc (.cells (madeCells #[.int .i64 0] (ents * 4).toNat) 3)) w3 := (Below.refl _ _).drew.trans (by simpa using hb3)
               exact .inr ⟨HT.out, w3.heap.size, by simp [Act.put], refK_endB hbb hb3' (by simpa using hK3) (Hdr.out.mono (by intro b hb; omega)) _ (by omega)⟩)
  · have h1000 : decide (1000 < (draws.length : Int)) = true := by simp; omega
    have HD : Hid (drawsR draws = false) := by show _ = _; simp [drawsR, hlong]
    go_wp2
    go_ret2
    exact .inl ⟨HD.out, rfl, hb2⟩
end Go.Proofs.YtndlmgocldckfaaGreat

namespace Go.Proofs.YtndlmgocldckfaaGreat
open Go.RowKit
set_option linter.unusedVariables false
set_option linter.unusedSimpArgs false

set_option maxRecDepth 100000 in
set_option maxHeartbeats 1000000 in
theorem rNow_any {R : Nat → Prop} (rb : Nat) (ents : Int) (ks : List (List Ins)) (draws : List Int) (taken clock next : Int) (regs : List Int) (q : List Ev) (w : World) (h : RefK R w rb ents ks draws taken clock next regs q) (ht : 0 ≤ taken) (ht' : taken ≤ 1000) :
    Calls Tryz.prog 49 #[.pointer (some ⟨rb, 0, none⟩)] w fun e w' => e = .returned (.tuple #[.int .i64 clock, .int .i64 q.length, .int .i64 (draws.length - taken)]) ∧ Below w.heap.size w w' := by
  obtain ⟨⟨kv, dv, rv, qv, h0, h1, h2, h3, h4, h5, h6, h7, hk, hd, hr, hq⟩, hroom⟩ := h
  obtain ⟨da, dc, rfl⟩ := hd.form
  obtain ⟨qa, qc, rfl⟩ := hq.form
  have hdl := hd.1
  clear h0 h1 h5 h6 hk hd hr hq hroom
  have hw : IntKind.i64.wrap ((draws.length : Int) - taken) = (draws.length : Int) - taken := by rw [IntKind.wrap_i64]; omega
  go_enter Tryz.func49, Tryz.ntmps49
  go_wp2
  go_quiet (fail)
  go_wp2
  go_ret3
  exact ⟨by simp [hw], below_drewN (Below.refl _ _) nq⟩

set_option maxHeartbeats 1000000 in
theorem room_any {R : Nat → Prop} (rb : Nat) (ents : Int) (ks : List (List Ins)) (draws : List Int) (taken clock next : Int) (regs : List Int) (q : List Ev) (w : World) (h : RefK R w rb ents ks draws taken clock next regs q) :
    Calls Tryz.prog 87 #[.pointer (some ⟨rb, 0, none⟩)] w fun e w' => e = .returned (.bool (decide (q.length < 16) && decide (next < 1000000000))) ∧ w' = w := by
  obtain ⟨⟨kv, dv, rv, qv, h0, h1, h2, h3, h4, h5, h6, h7, hk, hd, hr, hq⟩, hroom⟩ := h
  obtain ⟨qa, qc, rfl⟩ := hq.form
  clear h0 h1 h2 h3 h4 h6 hk hd hr hroom
  by_cases h16 : q.length < 16
  · have hd : decide ((q.length : Int) < 16) = true := by simp; omega
    go_enter Tryz.func87, Tryz.ntmps87
    go_wp2
    go_ret
    exact ⟨by simp [h16], rfl⟩
  · have hd : decide ((q.length : Int) < 16) = false := by simp; omega
    go_enter Tryz.func87, Tryz.ntmps87
    go_wp2
    go_ret
    exact ⟨by simp [h16], rfl⟩

set_option maxRecDepth 100000 in
set_option maxHeartbeats 1000000 in
theorem rReg_any {R : Nat → Prop} (rb : Nat) (ents : Int) (ks : List (List Ins)) (draws : List Int) (taken clock next : Int) (regs : List Int) (q : List Ev) (ent r : Int) (w : World) (h : RefK R w rb ents ks draws taken clock next regs q) (he : 1 ≤ ents) (he' : ents ≤ 8) (hrl : (regs.length : Int) = ents * 4) :
    Calls Tryz.prog 51 #[.pointer (some ⟨rb, 0, none⟩), .int .i64 ent, .int .i64 r] w fun e w' => w' = w ∧
      (((inB ent 0 (ents - 1) && inB r 0 3) = false ∧ e = .returned (.tuple #[.int .i64 0, .int .i64 1])) ∨ ((inB ent 0 (ents - 1) && inB r 0 3) = true ∧ ∃ x, regs[(ent * 4 + r).toNat]? = some x ∧ e = .returned (.tuple #[.int .i64 x, .int .i64 0]))) := by
  obtain ⟨⟨kv, dv, rv, qv, h0, h1, h2, h3, h4, h5, h6, h7, hk, hd, hr, hq⟩, hroom⟩ := h
  clear h1 h2 h3 h4 h5 h7 hk hd hq hroom
  rcases h1' : inB ent 0 (ents - 1) with _ | _
  · go_enter Tryz.func51, Tryz.ntmps51
    go_wp2_with (first | (go_at_call 57; refine (in_any _ _ _ _).mono ?_; rintro e w1 ⟨rfl, rfl⟩; rw [h1']) | (go_at_call 95; refine (register_any _ _).mono ?_; rintro e w1 ⟨rfl, rfl⟩))
    go_ret2
    exact ⟨rfl, .inl ⟨rfl, by simp⟩⟩
  · rcases h2' : inB r 0 3 with _ | _
    · go_enter Tryz.func51, Tryz.ntmps51
      go_wp2_with (first | (go_at_call 57; refine (in_any _ _ _ _).mono ?_; rintro e w1 ⟨rfl, rfl⟩; rw [h1']) | (go_at_call 95; refine (register_any _ _).mono ?_; rintro e w1 ⟨rfl, rfl⟩; rw [h2']))
      go_ret2
      exact ⟨rfl, .inl ⟨rfl, by simp⟩⟩
    · have b1 : 0 ≤ ent ∧ ent ≤ ents - 1 := by simpa [inB] using h1'
      have b2 : 0 ≤ r ∧ r ≤ 3 := by simpa [inB] using h2'
      obtain ⟨b11, b12⟩ := b1
      obtain ⟨b21, b22⟩ := b2
      obtain ⟨en, rfl⟩ := Int.eq_ofNat_of_zero_le b11
      obtain ⟨rn, rfl⟩ := Int.eq_ofNat_of_zero_le b21
      have hlt : en * 4 + rn < regs.length := by omega
      obtain ⟨_, ⟨_, h0'⟩ | ⟨b, off, cap, rfl, hb, hrow⟩⟩ := hr
      · rw [h0'] at hlt; simp at hlt
      · have hcell := hrow (en * 4 + rn) (.int .i64 regs[en * 4 + rn]) (by simp [ints, hlt])
        have HX : Hid (regs[((en : Int) * 4 + rn).toNat]? = some regs[en * 4 + rn]) := by
          show _ = _
          rw [show ((en : Int) * 4 + rn).toNat = en * 4 + rn by omega]; simp [hlt]
        generalize regs[en * 4 + rn] = x at hcell HX
        go_enter Tryz.func51, Tryz.ntmps51
        go_wp2_with (first | (go_at_call 57; refine (in_any _ _ _ _).mono ?_; rintro e w1 ⟨rfl, rfl⟩; rw [h1']) | (go_at_call 95; refine (register_any _ _).mono ?_; rintro e w1 ⟨rfl, rfl⟩; rw [h2']))
        go_ret2
        exact ⟨rfl, .inr ⟨rfl, x, HX.out, by simp⟩⟩
end Go.Proofs.YtndlmgocldckfaaGreat

namespace Go.Proofs.YtndlmgocldckfaaGreat
open Go.RowKit
set_option linter.unusedVariables false
set_option linter.unusedSimpArgs false

theorem Tryz.info129 : (Tryz.prog.info? 143).map (fun i => (i.zero, i.size, i.bytes)) = some (some (.agg #[.int .i64 0, .int .i64 0, .int .i64 0, .int .i64 0]), 4, 32) := by kernel_rfl

set_option maxHeartbeats 1000000 in
theorem ahead_any (a b : Ev) (w : World) :
    Calls Tryz.prog 115 #[.agg #[.int .i64 a.time, .int .i64 a.number, .int .i64 a.kind, .int .i64 a.entity], .agg #[.int .i64 b.time, .int .i64 b.number, .int .i64 b.kind, .int .i64 b.entity]] w
      fun e w' => e = .returned (.bool (aheadF a b)) ∧ Below w.heap.size w w' := by
  by_cases h1 : a.time < b.time
  · have h1' : decide (a.time < b.time) = true := by simpa using h1
    go_enter Tryz.func115, Tryz.ntmps115
    go_wp2
    go_ret
    exact ⟨by simp [aheadF, h1], ((Below.refl _ _).alloc (Nat.le_refl _) _).alloc (by simp) _⟩
  · have h1' : decide (a.time < b.time) = false := by simpa using h1
    by_cases h2 : a.time = b.time
    · have h2' : (a.time == b.time) = true := by simpa using h2
      have H2 := hide h2
      clear h2 h1
      go_enter Tryz.func115, Tryz.ntmps115
      go_wp2
      go_ret
      exact ⟨by simp [aheadF, H2.out], ((Below.refl _ _).alloc (Nat.le_refl _) _).alloc (by simp) _⟩
    · have h2' : (a.time == b.time) = false := by simpa using h2
      go_enter Tryz.func115, Tryz.ntmps115
      go_wp2
      go_ret
      exact ⟨by simp [aheadF, h1, h2], ((Below.refl _ _).alloc (Nat.le_refl _) _).alloc (by simp) _⟩

theorem CodeAt.take {w : World} {b off : Nat} {l : List Ins} (h : CodeAt w b off l) (k : Nat) : CodeAt w b off (l.take k) := by
  intro i x hx
  rw [List.getElem?_take] at hx
  split at hx
  · exact h i x hx
  · simp at hx
theorem CodeAt.drop {w : World} {b off : Nat} {l : List Ins} (h : CodeAt w b off l) (k : Nat) : CodeAt w b (off + k * 4) (l.drop k) := by
  intro i x hx
  rw [List.getElem?_drop] at hx
  obtain ⟨h0, h1, h2, h3⟩ := h (k + i) x hx
  refine ⟨?_, ?_, ?_, ?_⟩
  · rw [← h0]; congr 2; omega
  · rw [← h1]; congr 2; omega
  · rw [← h2]; congr 2; omega
  · rw [← h3]; congr 2; omega

/-- What planning leaves as it was, and where the new queue lies. -/
def PlanMore (w w' : World) (rb : Nat) (next : Int) (q : List Ev) : Prop :=
  (∀ i v, i ≠ 5 → i ≠ 7 → w.cell? ⟨rb, i, none⟩ = some v → w'.cell? ⟨rb, i, none⟩ = some v) ∧ w'.cell? ⟨rb, 5, none⟩ = some (.int .i64 (next + 1)) ∧ (∃ qv, w'.cell? ⟨rb, 7, none⟩ = some qv ∧ EvsIn (fun b => w.heap.size ≤ b ∧ b < w'.heap.size) w' qv q) ∧ Room w' rb 8

theorem rplan_end {R : Nat → Prop} {rb : Nat} {ents : Int} {ks : List (List Ins)} {draws : List Int} {taken clock next : Int} {regs : List Int} {q : List Ev} {time kind ent : Int} {w w3 w6 : World} {e : Ev} {k : Nat} {sa3 : Option Addr} {sc3 n : Nat}
    (hP : RefK R w rb ents ks draws taken clock next regs q) (hbk : rb < w.heap.size) (hR : ∀ b, R b → b < w.heap.size ∧ b ≠ rb) (hb : Below w.heap.size w w6) (he : e = ⟨time, next, kind, ent⟩) (hp : posF e q = k) (hkl : k ≤ q.length) (hn : n = q.length + 1)
    (hown : w6.ownsRow w3.heap.size 143 4 (.slice sa3 n sc3) n (flat ((q.map evIns).take k ++ [Ins.mk time next kind ent]) ++ flat ((q.map evIns).drop k))) (hz3 : w.heap.size < w3.heap.size) (hz6 : w3.heap.size ≤ w6.heap.size) :
    Ending.returned (.int .i64 next) = Ending.returned (.int .i64 next) ∧ Only (· = rb) w ((w6.setCell ⟨rb, 7, none⟩ (.slice sa3 n sc3)).setCell ⟨rb, 5, none⟩ (.int .i64 (next + 1))) ∧
      RefK (fun b => R b ∨ (w.heap.size ≤ b ∧ b < ((w6.setCell ⟨rb, 7, none⟩ (.slice sa3 n sc3)).setCell ⟨rb, 5, none⟩ (.int .i64 (next + 1))).heap.size)) ((w6.setCell ⟨rb, 7, none⟩ (.slice sa3 n sc3)).setCell ⟨rb, 5, none⟩ (.int .i64 (next + 1))) rb ents ks draws taken clock (next + 1) regs (insF ⟨time, next, kind, ent⟩ q) ∧ PlanMore w ((w6.setCell ⟨rb, 7, none⟩ (.slice sa3 n sc3)).setCell ⟨rb, 5, none⟩ (.int .i64 (next + 1))) rb next (insF ⟨time, next, kind, ent⟩ q) := by
  obtain ⟨W, hW⟩ : ∃ W, W = (w6.setCell ⟨rb, 7, none⟩ (.slice sa3 n sc3)).setCell ⟨rb, 5, none⟩ (.int .i64 (next + 1)) := ⟨_, rfl⟩
  have ho : Only (· = rb) w6 W := by rw [hW]; exact Only.setCell (S := (· = rb)) (Only.setCell (S := (· = rb)) (Only.refl _ _) rfl _) rfl _
  have how : Only (· = rb) w W := (Only.new hb).trans ho
  have hsz : W.heap.size = w6.heap.size := by rw [hW]; simp [World.setCell]
  have hRo : ∀ b, R b → ¬ b = rb := fun b hb => (hR b hb).2
  have hrm : Room W rb 8 := by rw [hW]; obtain ⟨_, hroom⟩ := hP; exact ((hroom.below hb hbk).setCell _ _).setCell _ _
  obtain ⟨⟨kv, dv, rv, qv, h0, h1, h2, h3, h4, h5, h6, h7, hk, hd, hr, hq⟩, hroom⟩ := hP
  have keep : ∀ i, i ≠ 5 → i ≠ 7 → ∀ v, w.cell? ⟨rb, i, none⟩ = some v → W.cell? ⟨rb, i, none⟩ = some v := by
    intro i h5 h7 v hv
    rw [hW, World.cell?_setCell_other _ _ _ _ (by simp; try omega), World.cell?_setCell_other _ _ _ _ (by simp; try omega)]
    exact below_at hb hv hbk
  have hz := hb.size
  have c5 : W.cell? ⟨rb, 5, none⟩ = some (.int .i64 (next + 1)) := by
    rw [hW]
    exact World.cell?_setCell_same' _ _ _ (((hroom.below hb hbk).setCell _ _) 5 (by omega)).1
  have c7 : W.cell? ⟨rb, 7, none⟩ = some (.slice sa3 n sc3) := by
    rw [hW, World.cell?_setCell_other _ _ _ _ (by simp)]
    exact World.cell?_setCell_same' _ _ _ ((hroom.below hb hbk) 7 (by omega)).1
  have hins : flat ((q.map evIns).take k ++ [Ins.mk time next kind ent]) ++ flat ((q.map evIns).drop k) = flat ((insF ⟨time, next, kind, ent⟩ q).map evIns) := by
    rw [insF, ← he, hp, he]
    simp [flat, evIns, List.map_take, List.map_drop]
  rw [hins] at hown
  have hil : (insF ⟨time, next, kind, ent⟩ q).length = n := by rw [insF_length, hn]
  rw [← hW]
  have hev : EvsIn (fun b => w.heap.size ≤ b ∧ b < W.heap.size) W (.slice sa3 n sc3) (insF ⟨time, next, kind, ent⟩ q) := by
    obtain ⟨hx, ⟨hn0, hn1⟩ | ⟨g, cap, cur, hg, hbg, hgc, hle, hmx, rest⟩⟩ := id hown
    · omega
    · rcases owns_row hown with ⟨_, h0', _⟩ | ⟨g', cap', hg', hb', hlt', hrow'⟩
      · omega
      · rw [hg] at hg'
        simp only [Value.slice.injEq, Option.some.injEq, Addr.mk.injEq, and_true, true_and] at hg'
        obtain ⟨rfl, rfl⟩ := hg'
        refine .inr ⟨g, 0, cap, by rw [hil]; exact hg, by rw [hil]; exact hle, by simpa [maxLen] using hmx, ⟨by omega, by omega⟩, ?_⟩
        exact (hrow'.only ho (by omega)).code
  refine ⟨rfl, how, ⟨⟨kv, dv, rv, .slice sa3 n sc3, keep 0 (by omega) (by omega) _ h0, keep 1 (by omega) (by omega) _ h1, keep 2 (by omega) (by omega) _ h2, keep 3 (by omega) (by omega) _ h3, keep 4 (by omega) (by omega) _ h4, c5, keep 6 (by omega) (by omega) _ h6, c7,
    (hk.only how hRo).mono (fun b h => .inl h), (hd.only how hRo).mono (fun b h => .inl h), (hr.only how hRo).mono (fun b h => .inl h), hev.mono (fun b h => .inr h)⟩, hrm⟩, ⟨fun i v h5 h7 => keep i h5 h7 v, c5, ⟨_, c7, hev⟩, hrm⟩⟩

end Go.Proofs.YtndlmgocldckfaaGreat

namespace Go.Proofs.YtndlmgocldckfaaGreat
open Go.RowKit
set_option linter.unusedVariables false
set_option linter.unusedSimpArgs false

set_option maxRecDepth 100000 in
set_option maxHeartbeats 2000000 in
theorem rplan_nil {R : Nat → Prop} (rb : Nat) (ents : Int) (ks : List (List Ins)) (draws : List Int) (taken clock next : Int) (regs : List Int) (time kind ent : Int) (w : World) (h : RefK R w rb ents ks draws taken clock next regs [])
    (hR : ∀ b, R b → b < w.heap.size ∧ b ≠ rb) (hv7 : w.cell? ⟨rb, 7, none⟩ = some (.slice none 0 0)) (hn0 : 0 ≤ next) (hn1 : next < 1000000000) :
    Calls Tryz.prog 88 #[.pointer (some ⟨rb, 0, none⟩), .int .i64 time, .int .i64 kind, .int .i64 ent] w fun e w' => e = .returned (.int .i64 next) ∧ Only (· = rb) w w' ∧
      RefK (fun b => R b ∨ (w.heap.size ≤ b ∧ b < w'.heap.size)) w' rb ents ks draws taken clock (next + 1) regs (insF ⟨time, next, kind, ent⟩ []) ∧ PlanMore w w' rb next (insF ⟨time, next, kind, ent⟩ []) := by
  have hP := hide h
  obtain ⟨⟨kv, dv, rv, qv, h0, h1, h2, h3, h4, h5, h6, h7, hk, hd, hr, hq⟩, hroom⟩ := h
  have hqv : qv = .slice none 0 0 := by rw [h7] at hv7; exact Option.some.inj hv7
  subst hqv
  have hq16 : ([] : List Ev).length < 16 := by decide
  have hbk := lt_of_cell h0
  have Hk := hide hk
  have Hd := hide hd
  have Hr := hide hr
  clear h0 h1 h2 h3 h4 h6 hk hd hr hq
  obtain ⟨e, he⟩ : ∃ e : Ev, e = ⟨time, next, kind, ent⟩ := ⟨_, rfl⟩
  have HE := hide he
  clear he
  go_enter Tryz.func88, Tryz.ntmps88
  go_wp2
  go_loopw [10] (fun i wr => i = .int .i64 0 ∧ Below (w.heap.size + 1) (w.alloc (.cells #[.int .i64 time, .int .i64 next, .int .i64 kind, .int .i64 ent] 143)) wr) (fun _ _ => 0)
  case atStart => exact ⟨rfl, Below.refl _ _⟩
  case round =>
    obtain ⟨rfl, hbel⟩ := hrel
    have hzr := hbel.size
    rw [World.size_alloc] at hzr
    have hb0 := (Below.refl w.heap.size w).alloc (Nat.le_refl _) (.cells #[.int .i64 time, .int .i64 next, .int .i64 kind, .int .i64 ent] 143)
    have hbw : Below w.heap.size w wr := hb0.trans (hbel.mono (by omega))
    have g7 := below_at hbw h7 hbk
    have e0 : wr.cell? ⟨w.heap.size, 0, none⟩ = some (.int .i64 time) := below_at hbel (by simp [go_sem]) (by omega)
    have e1 : wr.cell? ⟨w.heap.size, 1, none⟩ = some (.int .i64 next) := below_at hbel (by simp [go_sem]) (by omega)
    have e2 : wr.cell? ⟨w.heap.size, 2, none⟩ = some (.int .i64 kind) := below_at hbel (by simp [go_sem]) (by omega)
    have e3 : wr.cell? ⟨w.heap.size, 3, none⟩ = some (.int .i64 ent) := below_at hbel (by simp [go_sem]) (by omega)
    have e5 := below_at hbw h5 hbk
    go_wp2
    go_quiet (fail)
    have hb4 : Below wr.heap.size wr (wr.drewN nq) := below_drewN (Below.refl _ _) nq
    generalize wr.drewN nq = w3 at hb4 ⊢
    have hb5 : Below w.heap.size w w3 := hbw.trans (hb4.mono (by omega))
    have hz3 : w.heap.size < w3.heap.size := by have := hb4.size; omega
    have f7 := below_at hb5 h7 hbk
    have f5 := below_at hb5 h5 hbk
    have f0 := below_at hb4 e0 (by omega)
    have f1 := below_at hb4 e1 (by omega)
    have f2 := below_at hb4 e2 (by omega)
    have f3 := below_at hb4 e3 (by omega)
    clear e0 e1 e2 e3 e5 g7 h5 h7
    go_wp2_with (at_builtin; refine wpList_append_src rfl (.tmp 40) (.tmp 46) 115 rfl w3.heap.size 143 (.agg #[.int .i64 0, .int .i64 0, .int .i64 0, .int .i64 0]) 4 32 Tryz.underlying115 Tryz.info129 rfl (by omega) _ 0 [] rfl (World.ownsRow_nil _ _ _ _) _ 0 [] rfl ?_ rfl (by simp) (by omega) (by omega) (Nat.le_refl _) ?_)
    · exact .inl ⟨rfl, rfl, rfl⟩
    intro v1 w4 hown1 hgr1 hwh1
    obtain ⟨sa1, sc1, rfl⟩ := owns_form hown1.out
    have hb6 : Below w3.heap.size w3 w4 := (Below.refl _ _).grown hgr1.out (Nat.le_refl _) (by intro k hk; simp [Value.ownBlock] at hk)
    have hz4 := hb6.size
    have f7 := below_at hb6 f7 (by omega)
    have f5 := below_at hb6 f5 (by omega)
    have f0 := below_at hb6 f0 (by omega)
    have f1 := below_at hb6 f1 (by omega)
    have f2 := below_at hb6 f2 (by omega)
    have f3 := below_at hb6 f3 (by omega)
    try simp only [Nat.zero_add, List.nil_append] at hown1
    go_wp2_with (at_builtin; refine wpList_append_src rfl (.tmp 48) (.tmp 50) 115 rfl w3.heap.size 143 (.agg #[.int .i64 0, .int .i64 0, .int .i64 0, .int .i64 0]) 4 32 Tryz.underlying115 Tryz.info129 rfl (by omega) _ 0 [] rfl (hown1.out.alloc _) _ 1 (flat [Ins.mk time next kind ent]) rfl (.inr (.inl ⟨w4.heap.size, 0, _, rfl, ?_⟩)) rfl (flat_one _) (by omega) (by omega) (by simp; omega) ?_)
    · intro j u hu
      have hj : j < 4 := by have := (List.getElem?_eq_some_iff.1 hu).1; simpa [flat, cells4] using this
      have : j = 0 ∨ j = 1 ∨ j = 2 ∨ j = 3 := by omega
      rcases this with rfl | rfl | rfl | rfl <;> simp [flat, cells4] at hu <;> subst hu <;> simp [go_sem]
    intro v2 w5 hown2 hgr2 hwh2
    obtain ⟨sa2, sc2, rfl⟩ := owns_form hown2.out
    have hb7 : Below w3.heap.size w4 w5 := ((Below.refl _ _).alloc (by omega) _).grown hgr2.out (by simp; omega) (fun b hb => (hown1.out.lt b hb).1)
    have hz5 := hb7.size
    have f7 := below_at hb7 f7 (by omega)
    have f5 := below_at hb7 f5 (by omega)
    have f1 := below_at hb7 f1 (by omega)
    have hb37 : Below w3.heap.size w3 w5 := hb6.trans hb7
    have z7 : w5.frozen? ⟨rb, 7, none⟩ = false := ((hroom.below (hb5.trans (hb37.mono (by omega))) hbk) 7 (by omega)).2
    have z5 : w5.frozen? ⟨rb, 5, none⟩ = false := ((hroom.below (hb5.trans (hb37.mono (by omega))) hbk) 5 (by omega)).2
    clear f0 f2 f3
    try simp only [Nat.zero_add, List.nil_append] at hown2
    go_wp2_with (at_builtin; refine wpList_append_src rfl (.tmp 53) (.tmp 59) 115 rfl w3.heap.size 143 (.agg #[.int .i64 0, .int .i64 0, .int .i64 0, .int .i64 0]) 4 32 Tryz.underlying115 Tryz.info129 rfl (by omega) _ 1 (flat [Ins.mk time next kind ent]) rfl hown2.out _ 0 [] rfl ?_ rfl (by simp) (by omega) (by omega) (by omega) ?_)
    · exact .inl ⟨rfl, rfl, rfl⟩
    intro v3 w6 hown3 hgr3 hwh3
    obtain ⟨sa3, sc3, rfl⟩ := owns_form hown3.out
    have hb8 : Below w3.heap.size w5 w6 := (Below.refl _ _).grown hgr3.out (by omega) (fun b hb => (hown2.out.lt b hb).1)
    have hz6 := hb8.size
    have f7 := below_at hb8 f7 (by omega)
    have f5 := below_at hb8 f5 (by omega)
    have f1 := below_at hb8 f1 (by omega)
    have z7 : w6.frozen? ⟨rb, 7, none⟩ = false := (hb8.frozen (p := ⟨rb, 7, none⟩) (by show rb < _; omega)).trans z7
    have z5 : w6.frozen? ⟨rb, 5, none⟩ = false := (hb8.frozen (p := ⟨rb, 5, none⟩) (by show rb < _; omega)).trans z5
    have hrb : rb ≠ w.heap.size := by omega
    go_wp2
    go_ret
    exact rplan_end hP.out hbk hR (hb5.trans ((hb37.trans hb8).mono (by omega))) HE.out (k := 0) rfl (Nat.le_refl _) rfl (by simpa [flat] using hown3.out) (by omega) (by omega)
end Go.Proofs.YtndlmgocldckfaaGreat
