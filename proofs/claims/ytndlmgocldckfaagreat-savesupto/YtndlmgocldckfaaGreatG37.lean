import Derived.Test.YtndlmgocldckfaaGreatG19
import Derived.Test.YtndlmgocldckfaaGreatStG
import Derived.Test.YtndlmgocldckfaaGreatStQ
import Derived.Test.YtndlmgocldckfaaGreatG21
namespace Go.Proofs.YtndlmgocldckfaaGreat
open Go.RowKit
set_option linter.unusedVariables false
set_option linter.unusedSimpArgs false
set_option maxRecDepth 100000
set_option maxHeartbeats 4000000
structure FreshN (w : World) (lo rb : Nat) (ents : Int) (ks : List (List Ins)) (draws : List Int) (m : Nat) : Prop where
 body : ∃ gb kv dv, lo ≤ gb ∧ gb < w.heap.size ∧ gb ≠ rb ∧ w.cell? ⟨rb, 0, none⟩ = some (.int .i64 ents) ∧ w.cell? ⟨rb, 1, none⟩ = some kv ∧ w.cell? ⟨rb, 2, none⟩ = some dv ∧ w.cell? ⟨rb, 3, none⟩ = some (.int .i64 0) ∧ w.cell? ⟨rb, 4, none⟩ = some (.int .i64 0) ∧ w.cell? ⟨rb, 5, none⟩ = some (.int .i64 1) ∧ w.cell? ⟨rb, 6, none⟩ = some (.slice (some ⟨gb, 0, none⟩) m m) ∧ w.cell? ⟨rb, 7, none⟩ = some (.slice none 0 0) ∧
  Room w gb m ∧ RowAt w gb 0 (ints (List.replicate m 0)) ∧ KindsIn (fun b => lo ≤ b ∧ b < w.heap.size ∧ b ≠ rb ∧ b ≠ gb) w kv ks ∧ IntsIn (fun b => lo ≤ b ∧ b < w.heap.size ∧ b ≠ rb ∧ b ≠ gb) w dv draws
 room : Room w rb 8
theorem freshN_new (X : World) (lo rb gb : Nat) (T : TypeId) (ents : Int) (kv dv : Value) (ks : List (List Ins)) (draws : List Int) (m : Nat) (hrb : rb = X.heap.size) (hlo : lo ≤ X.heap.size) (hg : lo ≤ gb ∧ gb < X.heap.size) (hro : Room X gb m) (hrw : RowAt X gb 0 (ints (List.replicate m 0)))
  (hk : KindsIn (fun b => (lo ≤ b ∧ b < X.heap.size) ∧ b ≠ gb) X kv ks) (hd : IntsIn (fun b => (lo ≤ b ∧ b < X.heap.size) ∧ b ≠ gb) X dv draws) :
  FreshN (X.alloc (.cells #[.int .i64 ents, kv, dv, .int .i64 0, .int .i64 0, .int .i64 1, .slice (some ⟨gb, 0, none⟩) m m, .slice none 0 0] T)) lo rb ents ks draws m := by
 subst hrb
 have hb := (Below.refl X.heap.size X).alloc (Nat.le_refl _) (.cells #[.int .i64 ents, kv, dv, .int .i64 0, .int .i64 0, .int .i64 1, .slice (some ⟨gb, 0, none⟩) m m, .slice none 0 0] T)
 have ho := Only.new (S := fun _ => False) hb
 have hat : ∀ i, (X.alloc (.cells #[.int .i64 ents, kv, dv, .int .i64 0, .int .i64 0, .int .i64 1, .slice (some ⟨gb, 0, none⟩) m m, .slice none 0 0] T)).cell? ⟨X.heap.size, i, none⟩ = _ := fun i => World.cell?_alloc_at _ _ _ _ rfl
 have hR : ∀ b, (lo ≤ b ∧ b < X.heap.size) ∧ b ≠ gb → lo ≤ b ∧ b < (X.alloc (.cells #[.int .i64 ents, kv, dv, .int .i64 0, .int .i64 0, .int .i64 1, .slice (some ⟨gb, 0, none⟩) m m, .slice none 0 0] T)).heap.size ∧ b ≠ X.heap.size ∧ b ≠ gb := by intro b hb; simp; omega
 refine ⟨⟨gb, kv, dv, hg.1, by simp; omega, by omega, (hat 0).trans rfl, (hat 1).trans rfl, (hat 2).trans rfl, (hat 3).trans rfl, (hat 4).trans rfl, (hat 5).trans rfl, (hat 6).trans rfl, (hat 7).trans rfl, hro.below hb hg.2, hrw.below hb hg.2, (hk.only ho (by simp)).mono hR, (hd.only ho (by simp)).mono hR⟩, ?_⟩
 intro j hj
 rw [hat, World.frozen?_alloc_at _ _ _ _ rfl]
 have : j = 0 ∨ j = 1 ∨ j = 2 ∨ j = 3 ∨ j = 4 ∨ j = 5 ∨ j = 6 ∨ j = 7 := by omega
 rcases this with rfl | rfl | rfl | rfl | rfl | rfl | rfl | rfl <;> exact ⟨rfl, rfl⟩
theorem freshN_endA {w wr w3 : World} {ents : Int} {kv : Value} {dv : Value} {ks : List (List Ins)} {draws : List Int} (hbb : Below w.heap.size w wr) (hb3 : Below wr.heap.size wr w3)
  (hK3 : KindsIn (fun b => wr.heap.size ≤ b ∧ b < w3.heap.size) w3 kv ks) (hd : IntsIn (fun b => w.heap.size ≤ b ∧ b < wr.heap.size) wr dv draws) (m : Nat) (T : TypeId) (hm : m ≤ 17592186044416) :
  Below w.heap.size w ((w3.alloc (.cells (madeCells #[.int .i64 0] m) 3)).alloc (.cells #[.int .i64 ents, kv, dv, .int .i64 0, .int .i64 0, .int .i64 1, .slice (some ⟨w3.heap.size, 0, none⟩) m m, .slice none 0 0] T)) ∧ w.heap.size ≤ w3.heap.size + 1 ∧
  w3.heap.size + 1 < ((w3.alloc (.cells (madeCells #[.int .i64 0] m) 3)).alloc (.cells #[.int .i64 ents, kv, dv, .int .i64 0, .int .i64 0, .int .i64 1, .slice (some ⟨w3.heap.size, 0, none⟩) m m, .slice none 0 0] T)).heap.size ∧
  FreshN ((w3.alloc (.cells (madeCells #[.int .i64 0] m) 3)).alloc (.cells #[.int .i64 ents, kv, dv, .int .i64 0, .int .i64 0, .int .i64 1, .slice (some ⟨w3.heap.size, 0, none⟩) m m, .slice none 0 0] T)) w.heap.size (w3.heap.size + 1) ents ks draws m := by
 obtain ⟨X, hX⟩ : ∃ X, X = w3.alloc (.cells (madeCells #[.int .i64 0] m) 3) := ⟨_, rfl⟩
 have hXs : X.heap.size = w3.heap.size + 1 := by rw [hX]; simp
 have hXb : Below w3.heap.size w3 X := by rw [hX]; exact (Below.refl _ _).alloc (Nat.le_refl _) _
 have hz1 := hbb.size
 have hz3 := hb3.size
 have hrw : RowAt X w3.heap.size 0 (ints (List.replicate m 0)) := by rw [hX, ← ints_replicate]; exact row_made w3 _ m _
 have hro : Room X w3.heap.size m := by rw [hX]; exact room_made w3 _ m _
 rw [← hX]
 refine ⟨hbb.trans ((hb3.mono (by omega)).trans ((hXb.mono (by omega)).trans ((Below.refl _ _).alloc (by omega) _))), by omega, by simp [hXs], ?_⟩
 refine freshN_new X w.heap.size _ w3.heap.size T ents kv dv ks draws m hXs.symm (by omega) (by omega) hro hrw ?_ ?_
 ·exact (hK3.only (Only.new (S := fun _ => False) hXb) (by simp)).mono (by intro b hb; omega)
 ·exact ((hd.only (Only.new (S := fun _ => False) hb3) (by simp)).only (Only.new (S := fun _ => False) hXb) (by simp)).mono (by intro b hb; omega)
theorem freshN_endB {w wr w3 : World} {ents : Int} {kv : Value} {dv : Value} {ks : List (List Ins)} {draws : List Int} {m : Nat} (hbb : Below w.heap.size w wr) (hb3 : Below (wr.heap.size + 1) (wr.alloc (.cells (madeCells #[.int .i64 0] m) 3)) w3)
  (hK3 : KindsIn (fun b => wr.heap.size + 1 ≤ b ∧ b < w3.heap.size) w3 kv ks) (hd : IntsIn (fun b => w.heap.size ≤ b ∧ b < wr.heap.size) wr dv draws) (T : TypeId) (hm : m ≤ 17592186044416) :
  Below w.heap.size w (w3.alloc (.cells #[.int .i64 ents, kv, dv, .int .i64 0, .int .i64 0, .int .i64 1, .slice (some ⟨wr.heap.size, 0, none⟩) m m, .slice none 0 0] T)) ∧ w.heap.size ≤ w3.heap.size ∧
  w3.heap.size < (w3.alloc (.cells #[.int .i64 ents, kv, dv, .int .i64 0, .int .i64 0, .int .i64 1, .slice (some ⟨wr.heap.size, 0, none⟩) m m, .slice none 0 0] T)).heap.size ∧
  FreshN (w3.alloc (.cells #[.int .i64 ents, kv, dv, .int .i64 0, .int .i64 0, .int .i64 1, .slice (some ⟨wr.heap.size, 0, none⟩) m m, .slice none 0 0] T)) w.heap.size w3.heap.size ents ks draws m := by
 have hz1 := hbb.size
 have hz3 := hb3.size
 rw [World.size_alloc] at hz3
 have hb0 := (Below.refl wr.heap.size wr).alloc (Nat.le_refl _) (.cells (madeCells #[.int .i64 0] m) 3)
 have hrw : RowAt w3 wr.heap.size 0 (ints (List.replicate m 0)) := by rw [← ints_replicate]; exact (row_made wr _ m _).below hb3 (by omega)
 have hro : Room w3 wr.heap.size m := (room_made wr _ m _).below hb3 (by omega)
 refine ⟨hbb.trans ((hb0.mono (by omega)).trans ((hb3.mono (by omega)).trans ((Below.refl _ _).alloc (by omega) _))), by omega, by simp, ?_⟩
 refine freshN_new w3 w.heap.size _ wr.heap.size T ents kv dv ks draws m rfl (by omega) (by omega) hro hrw ?_ ?_
 ·exact hK3.mono (by intro b hb; omega)
 ·exact ((hd.only (Only.new (S := fun _ => False) hb0) (by simp)).only (Only.ofBelow (S := fun k => wr.heap.size + 1 ≤ k) hb3 (fun k h _ => h)) (by intro b hb; omega)).mono (by intro b hb; omega)
theorem rNewF_rest (ents : Int) (b off cap : Nat) (dv : Value) (ks : List (List Ins)) (draws : List Int) (w : World) (hl : ks.length ≤ 5864062014805) (hbw : b < w.heap.size) (hK : KindsAt w.heap.size w b off ks) (hd : IntsIn (· < w.heap.size) w dv draws) (hk : kindF ents ks = none) :
  Calls Tryz.prog 27 #[.agg #[.int .i64 ents, .slice (some ⟨b, off, none⟩) ks.length cap], dv] w
   fun e w' => (drawsR draws = false ∧ e = .returned (.tuple #[.pointer none, .int .i64 1]) ∧ Below w.heap.size w w') ∨ (drawsR draws = true ∧ ∃ rb, e = .returned (.tuple #[.pointer (some ⟨rb, 0, none⟩), .int .i64 0]) ∧ Below w.heap.size w w' ∧ w.heap.size ≤ rb ∧ rb < w'.heap.size ∧
    FreshN w' w.heap.size rb ents ks draws (ents * 4).toNat) := by
 have hents : 1 ≤ ents ∧ ents ≤ 8 := by
  unfold kindF at hk
  split at hk
  ·simp at hk
  ·rename_i h; simp [inB] at h; omega
 obtain ⟨he1, he2⟩ := hents
 have HV : Hid (checkV ents ks = .tuple #[.int .i64 0, .int .i64 0, .int .i64 0]) := by show _ = _; simp [checkV, hk]
 clear hk
 have hmk : ∀ W : World, (Instr.makeSlice 24 (.int .i64 (ents * 4)) (.int .i64 (ents * 4))).run Tryz.prog W = .ok (.slice (some ⟨W.heap.size, 0, none⟩) (ents * 4).toNat (ents * 4).toNat) (W.alloc (.cells (madeCells #[.int .i64 0] (ents * 4).toNat) 3)) := by
  intro W
  obtain ⟨i, hi, hz, hsz, hby⟩ := info_parts Tryz.info3
  have := run_make (P := Tryz.prog) W 24 3 i (.int .i64 0) Tryz.underlying24 hi hz .i64 .i64 (ents * 4) (ents * 4) (by omega) (Int.le_refl _) (by rw [hby]; omega) (by omega)
  rw [hsz] at this
  simp only [Nat.mul_one] at this
  exact this
 have hwrap : IntKind.i64.wrap (ents * 4) = ents * 4 := by rw [IntKind.wrap_i64]; omega
 obtain ⟨da, dc, rfl⟩ := hd.form
 go_enter Tryz.func27, Tryz.ntmps27
 go_wp2_with fail
 have hv : KindsV w.heap.size w (.slice (some ⟨b, off, none⟩) ks.length cap) ks := ⟨hl, .inr (.inl ⟨b, off, cap, rfl, hbw, hK⟩)⟩
 refine (rCheck_any ents _ ks _ ((hv.below ((Below.refl _ _).alloc (Nat.le_refl _) _)).mono (by simp))).mono ?_
 rintro e w1 ⟨rfl, hb1⟩
 rw [HV.out]
 have hb2 : Below w.heap.size w w1 := ((Below.refl _ _).alloc (Nat.le_refl _) _).trans (hb1.mono (by simp))
 have hm0 : w1.cell? ⟨w.heap.size, 0, none⟩ = some (.int .i64 ents) := below_at hb1 (by simp [go_sem]) (by simp)
 have hm1 : w1.cell? ⟨w.heap.size, 1, none⟩ = some (.slice (some ⟨b, off, none⟩) ks.length cap) := below_at hb1 (by simp [go_sem]) (by simp)
 have hz1 : w.heap.size < w1.heap.size := by have := hb1.size; simp at this; omega
 clear hb1
 by_cases hlong : draws.length ≤ 1000
 ·have h1000 : decide (1000 < (draws.length : Int)) = false := by simp; omega
  have HD : Hid (drawsR draws = draws.all drawB') := by show _ = _; simp [drawsR, hlong]
  go_wp2
  go_loopw [9, 10, 11] (fun lv i _ wr => ∃ (k : Nat) (oa : Option Addr) (oc : Nat), k ≤ draws.length ∧ i = .int .i64 k ∧ lv = .slice oa k oc ∧ Below w1.heap.size w1 wr ∧ Hid (wr.ownsRow w1.heap.size 3 1 (.slice oa k oc) k (ints (draws.take k))) ∧ Hid (∀ x ∈ draws.take k, drawB' x = true)) (fun _ i _ _ => draws.length - (intOf i).toNat)
  case atStart => exact ⟨0, none, 0, by omega, rfl, rfl, Below.refl _ _, World.ownsRow_nil _ _ _ _, by intro x hx; simp at hx⟩
  case round =>
   obtain ⟨k, oa, oc, hkl, rfl, rfl, hbel, hown, hall⟩ := hrel
   by_cases hlt : k < draws.length
   ·obtain ⟨_, ⟨_, h0⟩ | ⟨db, doff, dcap, hde, hdb, hdr⟩⟩ := hd
    ·rw [h0] at hlt; simp at hlt
    ·simp only [Value.slice.injEq] at hde
     obtain ⟨rfl, -, rfl⟩ := hde
     have hx : wr.cell? ⟨db, doff + k, none⟩ = some (.int .i64 draws[k]) := below_at hbel (below_at hb2 (hdr k _ (by simp [ints, hlt])) hdb) (by omega)
     rcases hm : drawB' draws[k] with _ | _
     ·have hm' : inB draws[k] 0 1000000000 = false := hm
      have HN : Hid (drawsR draws = false) := by
       show _ = _
       rw [HD.out]; simp only [List.all_eq_false]
       exact ⟨draws[k], by simp, by simp [hm]⟩
      clear hm
      go_wp2_with (go_at_call 57; refine (in_any _ _ _ _).mono ?_; rintro e w' ⟨rfl, rfl⟩)
      go_ret2
      exact .inl ⟨HN.out, rfl, hb2.trans (hbel.mono (by omega))⟩
     ·have hm' : inB draws[k] 0 1000000000 = true := hm
      have Hm := hide hm
      clear hm
      go_wp2_with (first | (go_at_call 57; refine (in_any _ _ _ _).mono ?_; rintro e w' ⟨rfl, rfl⟩) | (at_builtin; refine wpList_append_src rfl (.tmp 37) (.tmp 42) 24 rfl w1.heap.size 3 (.int .i64 0) 1 8 Tryz.underlying24 Tryz.info3 rfl (by omega) _ k (ints (draws.take k)) rfl (hown.out.alloc _) _ 1 [.int .i64 draws[k]] rfl (.inr (.inl ⟨_, 0, _, rfl, ?_⟩)) rfl (by simp [Value.oneCell']) (by omega) (by omega) (by have := hbel.size; simp; omega) ?_))
      ·intro j u hu
       have : j = 0 := by have := (List.getElem?_eq_some_iff.1 hu).1; simp at this; omega
       subst this
       simp at hu; subst hu
       simp [go_sem]
      intro v2 w2 hown2 hgr2 hwh2
      obtain ⟨sa2, sc2, rfl⟩ := owns_form hown2.out
      have hb3 : Below w1.heap.size w1 w2 := (hbel.alloc hbel.size _).grown hgr2.out (by have := hbel.size; simp; omega) (fun b hb => (hown.out.lt b hb).1)
      have hints : ints (draws.take k) ++ [.int .i64 draws[k]] = ints (draws.take (k + 1)) := ints_take_succ hlt
      rw [hints] at hown2
      clear hints
      go_wp2
      go_roundw
      case rel => exact ⟨k + 1, sa2, sc2, by omega, by go_num, rfl, hb3, hown2, all_take hlt hall.out Hm.out⟩
      case measure => simp [intOf]; omega
   ·have hk' : k = draws.length := by omega
    subst hk'
    rw [List.take_length] at hown hall
    have HT : Hid (drawsR draws = true) := by show _ = _; rw [HD.out]; simpa using hall.out
    have hdr := owns_ints hown.out hd.1
    have Hdr := hide hdr
    have gm0 := below_at hbel hm0 hz1
    have gm1 := below_at hbel hm1 hz1
    have hbb := hb2.trans (hbel.mono (by omega))
    have hzr : w.heap.size < wr.heap.size := by have := hbel.size; omega
    have HK : Hid (∀ W, Below wr.heap.size wr W → KindsAt W.heap.size W b off ks) := by
     intro W hW
     have := hW.size
     exact (hK.below (hbb.trans (hW.mono (by omega))) hbw (Nat.le_refl _)).mono (by omega)
    clear hm0 hm1 hdr hall
    go_wp2
    go_region_with (go_at_call 63; refine (rModel_any ents b off cap ks _ hl (by simp; omega) (HK.out _ (by first | exact (Below.refl _ _).drew | exact ((Below.refl _ _).alloc (Nat.le_refl _) _).drew | exact ((Below.refl _ _).drew).alloc (Nat.le_refl _) _))).mono ?_; rintro e w3 ⟨sa, sc, rfl, hb3, hK3⟩; have q0 : w3.cell? ⟨w.heap.size, 0, none⟩ = some (.int .i64 ents) := below_at hb3 (by first | exact gm0 | exact below_at ((Below.refl _ _).alloc (Nat.le_refl _) _) gm0 hzr) (by simp; omega); have q1 : w3.cell? ⟨w.heap.size, 1, none⟩ = some (.slice (some ⟨b, off, none⟩) ks.length cap) := below_at hb3 (by first | exact gm1 | exact below_at ((Below.refl _ _).alloc (Nat.le_refl _) _) gm1 hzr) (by simp; omega))
    all_goals
     go_wp2
     go_ret2
     first
      | (have hb3' : Below wr.heap.size wr w3 := (Below.refl _ _).drew.trans hb3
         exact .inr ⟨HT.out, w3.heap.size + 1, by simp [Act.put], freshN_endA hbb hb3' hK3 (Hdr.out.mono (by intro b hb; omega)) _ _ (by omega)⟩)
      | (have hb3' : Below (wr.heap.size + 1) (wr.alloc (.cells (madeCells #[.int .i64 0] (ents * 4).toNat) 3)) w3 := (Below.refl _ _).drew.trans (by simpa using hb3)
         exact .inr ⟨HT.out, w3.heap.size, by simp [Act.put], freshN_endB hbb hb3' (by simpa using hK3) (Hdr.out.mono (by intro b hb; omega)) _ (by omega)⟩)
 ·have h1000 : decide (1000 < (draws.length : Int)) = true := by simp; omega
  have HD : Hid (drawsR draws = false) := by show _ = _; simp [drawsR, hlong]
  go_wp2
  go_ret2
  exact .inl ⟨HD.out, rfl, hb2⟩
theorem rNewF_emptyD (ents : Int) (b off cap : Nat) (da : Addr) (dc : Nat) (ks : List (List Ins)) (w : World) (hl : ks.length ≤ 5864062014805) (hbw : b < w.heap.size) (hK : KindsAt w.heap.size w b off ks) (hk : kindF ents ks = none) :
  Calls Tryz.prog 27 #[.agg #[.int .i64 ents, .slice (some ⟨b, off, none⟩) ks.length cap], .slice (some da) 0 dc] w
   fun e w' => ∃ rb, e = .returned (.tuple #[.pointer (some ⟨rb, 0, none⟩), .int .i64 0]) ∧ Below w.heap.size w w' ∧ w.heap.size ≤ rb ∧ rb < w'.heap.size ∧
    FreshN w' w.heap.size rb ents ks [] (ents * 4).toNat := by
 have hents : 1 ≤ ents ∧ ents ≤ 8 := by
  unfold kindF at hk
  split at hk
  ·simp at hk
  ·rename_i h; simp [inB] at h; omega
 obtain ⟨he1, he2⟩ := hents
 have HV : Hid (checkV ents ks = .tuple #[.int .i64 0, .int .i64 0, .int .i64 0]) := by show _ = _; simp [checkV, hk]
 clear hk
 have hmk : ∀ W : World, (Instr.makeSlice 24 (.int .i64 (ents * 4)) (.int .i64 (ents * 4))).run Tryz.prog W = .ok (.slice (some ⟨W.heap.size, 0, none⟩) (ents * 4).toNat (ents * 4).toNat) (W.alloc (.cells (madeCells #[.int .i64 0] (ents * 4).toNat) 3)) := by
  intro W
  obtain ⟨i, hi, hz, hsz, hby⟩ := info_parts Tryz.info3
  have := run_make (P := Tryz.prog) W 24 3 i (.int .i64 0) Tryz.underlying24 hi hz .i64 .i64 (ents * 4) (ents * 4) (by omega) (Int.le_refl _) (by rw [hby]; omega) (by omega)
  rw [hsz] at this
  simp only [Nat.mul_one] at this
  exact this
 have hwrap : IntKind.i64.wrap (ents * 4) = ents * 4 := by rw [IntKind.wrap_i64]; omega
 go_enter Tryz.func27, Tryz.ntmps27
 go_wp2_with fail
 have hv : KindsV w.heap.size w (.slice (some ⟨b, off, none⟩) ks.length cap) ks := ⟨hl, .inr (.inl ⟨b, off, cap, rfl, hbw, hK⟩)⟩
 refine (rCheck_any ents _ ks _ ((hv.below ((Below.refl _ _).alloc (Nat.le_refl _) _)).mono (by simp))).mono ?_
 rintro e w1 ⟨rfl, hb1⟩
 rw [HV.out]
 have hb2 : Below w.heap.size w w1 := ((Below.refl _ _).alloc (Nat.le_refl _) _).trans (hb1.mono (by simp))
 have hm0 : w1.cell? ⟨w.heap.size, 0, none⟩ = some (.int .i64 ents) := below_at hb1 (by simp [go_sem]) (by simp)
 have hm1 : w1.cell? ⟨w.heap.size, 1, none⟩ = some (.slice (some ⟨b, off, none⟩) ks.length cap) := below_at hb1 (by simp [go_sem]) (by simp)
 have hz1 : w.heap.size < w1.heap.size := by have := hb1.size; simp at this; omega
 clear hb1
 go_wp2
 go_loopw [9, 10, 11] (fun lv i _ wr => i = .int .i64 0 ∧ lv = .slice none 0 0 ∧ Below w1.heap.size w1 wr) (fun _ _ _ _ => 0)
 case atStart => exact ⟨rfl, rfl, Below.refl _ _⟩
 case round =>
  obtain ⟨rfl, rfl, hbel⟩ := hrel
  have Hdr : Hid (IntsIn (fun b => w.heap.size ≤ b ∧ b < wr.heap.size) wr (.slice none 0 0) []) := ⟨by simp, .inl ⟨rfl, rfl⟩⟩
  have gm0 := below_at hbel hm0 hz1
  have gm1 := below_at hbel hm1 hz1
  have hbb := hb2.trans (hbel.mono (by omega))
  have hzr : w.heap.size < wr.heap.size := by have := hbel.size; omega
  have HK : Hid (∀ W, Below wr.heap.size wr W → KindsAt W.heap.size W b off ks) := by
   intro W hW
   have := hW.size
   exact (hK.below (hbb.trans (hW.mono (by omega))) hbw (Nat.le_refl _)).mono (by omega)
  clear hm0 hm1
  go_wp2
  go_region_with (go_at_call 63; refine (rModel_any ents b off cap ks _ hl (by simp; omega) (HK.out _ (by first | exact (Below.refl _ _).drew | exact ((Below.refl _ _).alloc (Nat.le_refl _) _).drew | exact ((Below.refl _ _).drew).alloc (Nat.le_refl _) _))).mono ?_; rintro e w3 ⟨sa, sc, rfl, hb3, hK3⟩; have q0 : w3.cell? ⟨w.heap.size, 0, none⟩ = some (.int .i64 ents) := below_at hb3 (by first | exact gm0 | exact below_at ((Below.refl _ _).alloc (Nat.le_refl _) _) gm0 hzr) (by simp; omega); have q1 : w3.cell? ⟨w.heap.size, 1, none⟩ = some (.slice (some ⟨b, off, none⟩) ks.length cap) := below_at hb3 (by first | exact gm1 | exact below_at ((Below.refl _ _).alloc (Nat.le_refl _) _) gm1 hzr) (by simp; omega))
  all_goals
   go_wp2
   go_ret2
   first
    | (have hb3' : Below wr.heap.size wr w3 := (Below.refl _ _).drew.trans hb3
       exact ⟨w3.heap.size + 1, by simp [Act.put], freshN_endA hbb hb3' hK3 Hdr.out _ _ (by omega)⟩)
    | (have hb3' : Below (wr.heap.size + 1) (wr.alloc (.cells (madeCells #[.int .i64 0] (ents * 4).toNat) 3)) w3 := (Below.refl _ _).drew.trans (by simpa using hb3)
       exact ⟨w3.heap.size, by simp [Act.put], freshN_endB hbb hb3' (by simpa using hK3) Hdr.out _ (by omega)⟩)
theorem rNewF_restX (ents : Int) (b off cap : Nat) (dv : Value) (ks : List (List Ins)) (draws : List Int) (w : World) (hl : ks.length ≤ 5864062014805) (hbw : b < w.heap.size) (hK : KindsAt w.heap.size w b off ks) (hd : IntsX w.heap.size w dv draws) (hk : kindF ents ks = none) :
  Calls Tryz.prog 27 #[.agg #[.int .i64 ents, .slice (some ⟨b, off, none⟩) ks.length cap], dv] w
   fun e w' => (drawsR draws = false ∧ e = .returned (.tuple #[.pointer none, .int .i64 1]) ∧ Below w.heap.size w w') ∨ (drawsR draws = true ∧ ∃ rb, e = .returned (.tuple #[.pointer (some ⟨rb, 0, none⟩), .int .i64 0]) ∧ Below w.heap.size w w' ∧ w.heap.size ≤ rb ∧ rb < w'.heap.size ∧
    FreshN w' w.heap.size rb ents ks draws (ents * 4).toNat) := by
 rcases hd with hd | ⟨da, dc, rfl, rfl⟩
 ·exact rNewF_rest ents b off cap dv ks draws w hl hbw hK hd hk
 ·refine (rNewF_emptyD ents b off cap da dc ks w hl hbw hK hk).mono ?_
  rintro e w' h
  exact .inr ⟨rfl, h⟩
section
variable {R : Nat → Prop} {lo : Nat} {w w' : World} {rb gb : Nat} {ents : Int} {ks : List (List Ins)} {draws : List Int} {s : KS} {qv : Value} {m : Nat}
theorem LkP.refK (h : LkP R lo w rb gb ents ks draws s qv (ents * 4).toNat) (he : 1 ≤ ents ∧ ents ≤ 8) : RefK (fun b => R b ∨ b = gb ∨ some b = qv.ownBlock) w rb ents ks draws s.taken s.clock s.next (regL ents s) s.q := by
 obtain ⟨kv, k1, k2⟩ := h.kinds
 obtain ⟨dv, d1, d2⟩ := h.draw
 refine ⟨⟨kv, dv, _, qv, h.c0, k1, d1, h.c3, h.c4, h.c5, h.c6, h.c7, k2.mono (fun b hb => .inl hb), d2.mono (fun b hb => .inl hb), ⟨by rw [regL_length]; omega, .inr ⟨gb, 0, _, by rw [regL_length], .inr (.inl rfl), ?_⟩⟩, ?_⟩, h.room⟩
 ·intro j v hv
  have hj : j < (ents * 4).toNat := by have := (List.getElem?_eq_some_iff.1 hv).1; simpa [ints, regL] using this
  simp [ints, regL, hj] at hv
  subst hv
  rw [Nat.zero_add]
  exact h.regs j hj
 ·rcases owns_row h.que with ⟨e, h0, _⟩ | ⟨g, cap, e, _, _, hr⟩
  ·exact .inl ⟨e, List.eq_nil_of_length_eq_zero h0⟩
  ·obtain ⟨_, ⟨e1, _⟩ | ⟨g1, cap1, cur, e1, _, _, hn, hm, _, _⟩⟩ := h.que
   ·rw [e] at e1; simp at e1
   ·rw [e] at e1
    simp only [Value.slice.injEq, Option.some.injEq, Addr.mk.injEq, and_true, true_and] at e1
    obtain ⟨rfl, rfl⟩ := e1
    refine .inr ⟨g, 0, cap, e, hn, by unfold maxLen at hm; omega, .inr (.inr (by rw [e]; rfl)), ?_⟩
    exact RowAt.code hr
theorem LkP.setI (h : LkP R lo w rb gb ents ks draws s qv m) (j : Nat) (v : Value) (hj : j = 3 ∨ j = 4 ∨ j = 5) (s' : KS) (h3 : j = 3 → v = .int .i64 s'.taken) (h4 : j = 4 → v = .int .i64 s'.clock) (h5 : j = 5 → v = .int .i64 s'.next) (n3 : j ≠ 3 → s'.taken = s.taken) (n4 : j ≠ 4 → s'.clock = s.clock) (n5 : j ≠ 5 → s'.next = s.next) (hr : s'.regs = s.regs) (hq : s'.q = s.q) :
  LkP R lo (w.setCell ⟨rb, j, none⟩ v) rb gb ents ks draws s' qv m := by
 have ho : Only (· = rb) w (w.setCell ⟨rb, j, none⟩ v) := Only.setCell (S := (· = rb)) (Only.refl _ _) rfl _
 have hcell : ∀ (i : Nat) u, i ≠ j → w.cell? ⟨rb, i, none⟩ = some u → (w.setCell ⟨rb, j, none⟩ v).cell? ⟨rb, i, none⟩ = some u := by
  intro i u hi hu
  rw [World.cell?_setCell_other _ _ _ _ (by simp; try omega)]; exact hu
 have hat : (w.setCell ⟨rb, j, none⟩ v).cell? ⟨rb, j, none⟩ = some v := World.cell?_setCell_same' _ _ _ (h.room j (by omega)).1
 have hsz : (w.setCell ⟨rb, j, none⟩ v).heap.size = w.heap.size := by simp [World.setCell]
 obtain ⟨kv, k1, k2⟩ := h.kinds
 obtain ⟨dv, d1, d2⟩ := h.draw
 have hRS : ∀ b, R b → ¬ b = rb := fun b hb => (h.far b hb).2.1
 have hgr : ¬ gb = rb := fun e => h.ne e.symm
 refine ⟨hcell 0 _ (by omega) h.c0, ⟨kv, hcell 1 _ (by omega) k1, k2.only ho hRS⟩, ⟨dv, hcell 2 _ (by omega) d1, d2.only ho hRS⟩, ?_, ?_, ?_, hcell 6 _ (by omega) h.c6, fun i hi => by rw [hr]; exact ho.at (h.regs i hi) hgr, h.rroom.only ho hgr, hcell 7 _ (by omega) h.c7, by rw [hq]; exact owns_keep h.que ho (fun b hb e => h.qr (by rw [← e]; exact hb)), h.room.setCell _ _, fun b hb => by rw [hsz]; exact h.far b hb, h.ne, by rw [hsz]; exact h.glt, h.qr, h.qg⟩
 ·by_cases e : j = 3
  ·rw [← h3 e, ← e]; exact hat
  ·rw [n3 e]; exact hcell 3 _ (Ne.symm e) h.c3
 ·by_cases e : j = 4
  ·rw [← h4 e, ← e]; exact hat
  ·rw [n4 e]; exact hcell 4 _ (Ne.symm e) h.c4
 ·by_cases e : j = 5
  ·rw [← h5 e, ← e]; exact hat
  ·rw [n5 e]; exact hcell 5 _ (Ne.symm e) h.c5
theorem LkP.setR (h : LkP R lo w rb gb ents ks draws s qv m) (j : Nat) (v : Int) (hj : j < m) : LkP R lo (w.setCell ⟨gb, j, none⟩ (.int .i64 v)) rb gb ents ks draws { s with regs := putR s.regs j v } qv m := by
 have ho : Only (· = gb) w (w.setCell ⟨gb, j, none⟩ (.int .i64 v)) := Only.setCell (S := (· = gb)) (Only.refl _ _) rfl _
 have hsz : (w.setCell ⟨gb, j, none⟩ (.int .i64 v)).heap.size = w.heap.size := by simp [World.setCell]
 obtain ⟨kv, k1, k2⟩ := h.kinds
 obtain ⟨dv, d1, d2⟩ := h.draw
 have hRS : ∀ b, R b → ¬ b = gb := fun b hb => (h.far b hb).2.2.1
 have hr : ¬ rb = gb := h.ne
 refine ⟨ho.at h.c0 hr, ⟨kv, ho.at k1 hr, k2.only ho hRS⟩, ⟨dv, ho.at d1 hr, d2.only ho hRS⟩, ho.at h.c3 hr, ho.at h.c4 hr, ho.at h.c5 hr, ho.at h.c6 hr, ?_, h.rroom.setCell _ _, ho.at h.c7 hr, owns_keep h.que ho (fun b hb e => h.qg (by rw [← e]; exact hb)), h.room.only ho hr, fun b hb => by rw [hsz]; exact h.far b hb, h.ne, by rw [hsz]; exact h.glt, h.qr, h.qg⟩
 intro i hi
 show _ = some (Value.int .i64 (putR s.regs j v i))
 unfold putR
 by_cases e : i = j
 ·subst e
  rw [if_pos rfl]
  exact World.cell?_setCell_same' _ _ _ (h.rroom i hi).1
 ·rw [if_neg e, World.cell?_setCell_other _ _ _ _ (by simp; try omega)]
  exact h.regs i hi
end
section
variable {R : Nat → Prop} {lo : Nat} {w0 w w' : World} {rb gb db : Nat} {ents : Int} {ks : List (List Ins)} {draws : List Int} {s : KS} {qv : Value} {m : Nat} {all l : List Int} {bad : Bool}
theorem LdS.put (h : LdS R lo w0 w rb gb db ents ks draws s qv m all l bad) {B j : Nat} {v : Value} {s' : KS} (hB : B = rb ∨ B = gb) (hk : LkP R lo (w.setCell ⟨B, j, none⟩ v) rb gb ents ks draws s' qv m) : LdS R lo w0 (w.setCell ⟨B, j, none⟩ v) rb gb db ents ks draws s' qv m all l bad := by
 have ho : Only (· = B) w (w.setCell ⟨B, j, none⟩ v) := Only.setCell (S := (· = B)) (Only.refl _ _) rfl _
 have hsz : (w.setCell ⟨B, j, none⟩ v).heap.size = w.heap.size := by simp [World.setCell]
 have hl := h.los
 refine ⟨h.bel.trans (ho.below hl.2.2.2 (fun k hk hc => by rcases hB with e | e <;> omega)), hk, h.rd.only ho (fun hc => h.sep ?_), h.sep, h.rsep, ⟨hl.1, hl.2.1, hl.2.2.1, by omega⟩⟩
 rcases hB with e | e
 ·exact .inl (by omega)
 ·exact .inr (.inl (by omega))
end
end Go.Proofs.YtndlmgocldckfaaGreat
