import Derived.Test.YtndlmgocldckfaaGreatG10
import Derived.Test.YtndlmgocldckfaaGreatG08
import Derived.Test.YtndlmgocldckfaaGreatG04
import Derived.Test.YtndlmgocldckfaaGreatG09
import Derived.Test.YtndlmgocldckfaaGreatG06
import Derived.Test.YtndlmgocldckfaaGreatG02
import Derived.Lib.ConvBytes
namespace Go.Proofs.YtndlmgocldckfaaGreat
open Go.RowKit
set_option linter.unusedVariables false
set_option linter.unusedSimpArgs false
set_option maxRecDepth 100000
set_option maxHeartbeats 4000000
end Go.Proofs.YtndlmgocldckfaaGreat

namespace Go.Proofs.YtndlmgocldckfaaGreat
open Go.RowKit Go.Conc
set_option linter.unusedVariables false
set_option linter.unusedSimpArgs false
set_option maxRecDepth 100000
set_option maxHeartbeats 4000000
section
variable {P : Program} {Q : Goroutine → World → Prop} {b : Frame} {a : Act} {k : List Item} {cs : List Frame} {w : World}
end
end Go.Proofs.YtndlmgocldckfaaGreat

namespace Go.Proofs.YtndlmgocldckfaaGreat
open Go.RowKit
set_option linter.unusedVariables false
set_option linter.unusedSimpArgs false
set_option maxRecDepth 100000
set_option maxHeartbeats 4000000
structure StR (R : Nat → Prop) (w wr : World) (cb gb : Nat) (ents : Int) (ks : List (List Ins)) (draws : List Int) (E : Nat) (code : List Ins) (RES : KS × List Int × Int) (ev : Ev) (i : Nat) (tv : Value) (st : KS) (told : List Int) (R' : Nat → Prop) : Prop where
 only : Only (fun b => b = cb ∨ b = gb) w wr
 rc : RefC R' wr cb gb ents ks draws st
 sub : ∀ b, R' b → R b ∨ w.heap.size + 3 ≤ b
 ok : KOk ents ks.length draws st
 res : execF draws E (code.drop i) st told = RES
 o0 : wr.cell? ⟨w.heap.size + 2, 0, none⟩ = some (.int .i64 ev.number) ∧ wr.cell? ⟨w.heap.size + 2, 1, none⟩ = some (.int .i64 ev.time) ∧ wr.cell? ⟨w.heap.size + 2, 2, none⟩ = some (.int .i64 ev.kind) ∧ wr.cell? ⟨w.heap.size + 2, 3, none⟩ = some (.int .i64 ev.entity)
 o4 : wr.cell? ⟨w.heap.size + 2, 4, none⟩ = some tv
 e0 : wr.cell? ⟨w.heap.size + 1, 0, none⟩ = some (.int .i64 ev.time) ∧ wr.cell? ⟨w.heap.size + 1, 1, none⟩ = some (.int .i64 ev.number) ∧ wr.cell? ⟨w.heap.size + 1, 2, none⟩ = some (.int .i64 ev.kind) ∧ wr.cell? ⟨w.heap.size + 1, 3, none⟩ = some (.int .i64 ev.entity)
 oroom : Room wr (w.heap.size + 2) 5
 wroom : Room wr w.heap.size 5
 own : wr.ownsRow (w.heap.size + 3) 3 1 tv told.length (ints told)
 nap : ∀ b, some b = tv.ownBlock → ¬ R' b
 le : i ≤ 40
 tl : told.length ≤ i
section
variable {R R' : Nat → Prop} {w wr w2 : World} {cb gb : Nat} {ents : Int} {ks : List (List Ins)} {draws : List Int} {E : Nat} {code : List Ins} {RES : KS × List Int × Int} {ev : Ev} {i j : Nat} {tv : Value} {st : KS} {told : List Int}
theorem StR.keep (h : StR R w wr cb gb ents ks draws E code RES ev i tv st told R') (ho : Only (fun _ => False) wr w2) (hres : execF draws E (code.drop j) st told = RES) (hj : j ≤ 40) (hij : i ≤ j) : StR R w w2 cb gb ents ks draws E code RES ev j tv st told R' := by
 exact ⟨h.only.trans (ho.mono (fun _ _ hb => hb.elim)), h.rc.only ho (fun _ _ h => h) (fun h => h) (fun h => h), h.sub, h.ok, hres, ⟨ho.at h.o0.1 (fun h => h), ho.at h.o0.2.1 (fun h => h), ho.at h.o0.2.2.1 (fun h => h), ho.at h.o0.2.2.2 (fun h => h)⟩, ho.at h.o4 (fun h => h), ⟨ho.at h.e0.1 (fun h => h), ho.at h.e0.2.1 (fun h => h), ho.at h.e0.2.2.1 (fun h => h), ho.at h.e0.2.2.2 (fun h => h)⟩, h.oroom.only ho (fun h => h), h.wroom.only ho (fun h => h), owns_only h.own ho (fun _ _ h => h), h.nap, hj, Nat.le_trans h.tl hij⟩
theorem StR.next {R'' : Nat → Prop} {w3 : World} {v3 : Value} {st' : KS} {t : List Int} (h : StR R w wr cb gb ents ks draws E code RES ev i tv st told R') (hR : ∀ b, R b → b < w.heap.size) (hcg : cb < w.heap.size ∧ gb < w.heap.size) (ho : Only (fun b => b = cb ∨ b = gb) wr w2)
  (hR'' : ∀ b, R'' b → R' b ∨ (wr.heap.size ≤ b ∧ b < w2.heap.size)) (hrc : RefC R'' w2 cb gb ents ks draws st') (hok : KOk ents ks.length draws st') (hres : execF draws E (code.drop (i + 1)) st' (told ++ t) = RES) (hi : i + 1 ≤ 40) (ht : t.length ≤ 1)
  (hgr : w2.grownBy w3 tv.ownBlock) (hown : w3.ownsRow (w.heap.size + 3) 3 1 v3 (told.length + t.length) (ints told ++ ints t)) (hwh : v3.ownBlock = tv.ownBlock ∨ v3.ownBlock = some w2.heap.size) :
  StR R w (w3.setCell ⟨w.heap.size + 2, 4, none⟩ v3) cb gb ents ks draws E code RES ev (i + 1) v3 st' (told ++ t) R'' := by
 have hzo := lt_of_cell h.o4
 have hz2 := ho.size
 have hg : Only (fun b => some b = tv.ownBlock) w2 w3 := only_of_grown hgr
 have hz3 := hg.size
 have hs : Only (· = w.heap.size + 2) w3 (w3.setCell ⟨w.heap.size + 2, 4, none⟩ v3) := (Only.refl (· = w.heap.size + 2) w3).setCell (p := ⟨w.heap.size + 2, 4, none⟩) (show w.heap.size + 2 = w.heap.size + 2 from rfl) _
 have htb : ∀ b, some b = tv.ownBlock → w.heap.size + 3 ≤ b ∧ b < wr.heap.size := fun b hb => h.own.lt b hb.symm
 have hvb : ∀ b, some b = v3.ownBlock → w.heap.size + 3 ≤ b := fun b hb => (hown.lt b hb.symm).1
 have n1 : ∀ k, k < w.heap.size + 3 → ¬ some k = tv.ownBlock := fun k hk hc => by have := htb k hc; omega
 have hRt : ∀ b, R'' b → ¬ some b = tv.ownBlock := by
  intro b hb hc
  rcases hR'' b hb with hb' | hb'
  ·exact h.nap b hc hb'
  ·have := htb b hc; omega
 have hRo : ∀ b, R'' b → ¬ b = w.heap.size + 2 := by
  intro b hb hc
  rcases hR'' b hb with hb' | hb'
  ·rcases h.sub b hb' with hb2 | hb2
   ·have := hR b hb2; omega
   ·omega
  ·omega
 have k2 : ∀ x o v, x < w.heap.size + 3 → w.heap.size ≤ x → wr.cell? ⟨x, o, none⟩ = some v → w3.cell? ⟨x, o, none⟩ = some v := by
  intro x o v hx1 hx2 hv
  exact hg.at (ho.at hv (by simp; omega)) (n1 x hx1)
 have k3 : ∀ x o v, x < w.heap.size + 3 → w.heap.size ≤ x → ¬ (x = w.heap.size + 2 ∧ o = 4) → wr.cell? ⟨x, o, none⟩ = some v → (w3.setCell ⟨w.heap.size + 2, 4, none⟩ v3).cell? ⟨x, o, none⟩ = some v := by
  intro x o v hx1 hx2 hne hv
  rw [World.cell?_setCell_other _ _ _ _ (by simp; omega)]
  exact k2 x o v hx1 hx2 hv
 have hro : Room w3 (w.heap.size + 2) 5 := (h.oroom.only ho (by simp; omega)).only hg (n1 _ (by omega))
 refine ⟨?_, (hrc.only hg hRt (n1 _ (by omega)) (n1 _ (by omega))).only hs hRo (by omega) (by omega), ?_, hok, hres, ⟨k3 _ _ _ (by omega) (by omega) (by omega) h.o0.1, k3 _ _ _ (by omega) (by omega) (by omega) h.o0.2.1, k3 _ _ _ (by omega) (by omega) (by omega) h.o0.2.2.1, k3 _ _ _ (by omega) (by omega) (by omega) h.o0.2.2.2⟩, World.cell?_setCell_same' _ _ _ (hro 4 (by omega)).1, ⟨k3 _ _ _ (by omega) (by omega) (by omega) h.e0.1, k3 _ _ _ (by omega) (by omega) (by omega) h.e0.2.1, k3 _ _ _ (by omega) (by omega) (by omega) h.e0.2.2.1, k3 _ _ _ (by omega) (by omega) (by omega) h.e0.2.2.2⟩, hro.setCell _ _, ((h.wroom.only ho (by simp; omega)).only hg (n1 _ (by omega))).setCell _ _, ?_, ?_, hi, ?_⟩
 ·exact (((h.only.trans ho).mono (S' := fun b => b = cb ∨ b = gb ∨ w.heap.size ≤ b) (fun b _ hb => by rcases hb with hb | hb; exact .inl hb; exact .inr (.inl hb))).trans ((hg.mono (S' := fun b => b = cb ∨ b = gb ∨ w.heap.size ≤ b) (fun b _ hb => .inr (.inr (by have := htb b hb; omega)))).trans (hs.mono (fun b _ hb => .inr (.inr (by omega)))))).mono (fun b hb hc => by rcases hc with hc | hc | hc; exact .inl hc; exact .inr hc; omega)
 ·intro b hb
  rcases hR'' b hb with hb' | hb'
  ·exact h.sub b hb'
  ·exact .inr (by omega)
 ·have e1 : (told ++ t).length = told.length + t.length := by simp
  have e2 : ints (told ++ t) = ints told ++ ints t := by simp [ints]
  rw [e1, e2]
  exact owns_only hown hs (fun b hb hc => by have := hvb b hb; omega)
 ·intro b hb hc
  rcases hwh with e | e
  ·rw [e] at hb; exact hRt b hc hb
  ·rw [e] at hb
   have := Option.some.inj hb
   have := (hrc.far b hc).1
   omega
 ·have := h.tl
  simp; omega
end
def putK (w : World) (rb : Nat) (v3 v4 v5 v6 v7 : Value) : World := ((((w.setCell ⟨rb, 3, none⟩ v3).setCell ⟨rb, 4, none⟩ v4).setCell ⟨rb, 5, none⟩ v5).setCell ⟨rb, 6, none⟩ v6).setCell ⟨rb, 7, none⟩ v7
theorem only_putK (w : World) (rb : Nat) (v3 v4 v5 v6 v7 : Value) : Only (· = rb) w (putK w rb v3 v4 v5 v6 v7) := (((((Only.refl _ _).setCell (S := (· = rb)) (p := ⟨rb, 3, none⟩) rfl _).setCell (p := ⟨rb, 4, none⟩) rfl _).setCell (p := ⟨rb, 5, none⟩) rfl _).setCell (p := ⟨rb, 6, none⟩) rfl _).setCell (p := ⟨rb, 7, none⟩) rfl _
theorem putK_other {w : World} {rb : Nat} {v3 v4 v5 v6 v7 : Value} {o : Nat} {v : Value} (ho : o < 3) (h : w.cell? ⟨rb, o, none⟩ = some v) : (putK w rb v3 v4 v5 v6 v7).cell? ⟨rb, o, none⟩ = some v := by
 unfold putK
 rw [World.cell?_setCell_other _ _ _ _ (by simp <;> omega), World.cell?_setCell_other _ _ _ _ (by simp <;> omega), World.cell?_setCell_other _ _ _ _ (by simp <;> omega), World.cell?_setCell_other _ _ _ _ (by simp <;> omega), World.cell?_setCell_other _ _ _ _ (by simp <;> omega)]
 exact h
theorem putK_at {w : World} {rb : Nat} (h : Room w rb 8) (v3 v4 v5 v6 v7 : Value) : (putK w rb v3 v4 v5 v6 v7).cell? ⟨rb, 3, none⟩ = some v3 ∧ (putK w rb v3 v4 v5 v6 v7).cell? ⟨rb, 4, none⟩ = some v4 ∧ (putK w rb v3 v4 v5 v6 v7).cell? ⟨rb, 5, none⟩ = some v5 ∧ (putK w rb v3 v4 v5 v6 v7).cell? ⟨rb, 6, none⟩ = some v6 ∧ (putK w rb v3 v4 v5 v6 v7).cell? ⟨rb, 7, none⟩ = some v7 := by
 unfold putK
 refine ⟨?_, ?_, ?_, ?_, ?_⟩
 ·rw [World.cell?_setCell_other _ _ _ _ (by simp), World.cell?_setCell_other _ _ _ _ (by simp), World.cell?_setCell_other _ _ _ _ (by simp), World.cell?_setCell_other _ _ _ _ (by simp)]
  exact World.cell?_setCell_same' _ _ _ (h 3 (by omega)).1
 ·rw [World.cell?_setCell_other _ _ _ _ (by simp), World.cell?_setCell_other _ _ _ _ (by simp), World.cell?_setCell_other _ _ _ _ (by simp)]
  exact World.cell?_setCell_same' _ _ _ ((h.setCell _ _) 4 (by omega)).1
 ·rw [World.cell?_setCell_other _ _ _ _ (by simp), World.cell?_setCell_other _ _ _ _ (by simp)]
  exact World.cell?_setCell_same' _ _ _ (((h.setCell _ _).setCell _ _) 5 (by omega)).1
 ·rw [World.cell?_setCell_other _ _ _ _ (by simp)]
  exact World.cell?_setCell_same' _ _ _ ((((h.setCell _ _).setCell _ _).setCell _ _) 6 (by omega)).1
 ·exact World.cell?_setCell_same' _ _ _ (((((h.setCell _ _).setCell _ _).setCell _ _).setCell _ _) 7 (by omega)).1
theorem RefK.take {R' R'' : Nat → Prop} {w : World} {rb cb gb : Nat} {ents : Int} {ks : List (List Ins)} {draws : List Int} {tk ck nx : Int} {rg : List Int} {q : List Ev} {st : KS} (h : RefK R' w rb ents ks draws tk ck nx rg q) (hc : RefC R'' w cb gb ents ks draws st) (he : 0 ≤ ents ∧ ents ≤ 8)
  (hR' : ∀ b, R' b → b ≠ rb) (hR'' : ∀ b, R'' b → b ≠ rb) (hg : gb ≠ rb) {cap : Nat} {qv : Value} (h7 : w.cell? ⟨cb, 7, none⟩ = some qv) (hcap : (ents * 4).toNat ≤ cap) :
  RefK (fun b => R' b ∨ R'' b ∨ b = gb) (putK w rb (.int .i64 st.taken) (.int .i64 st.clock) (.int .i64 st.next) (.slice (some ⟨gb, 0, none⟩) (ents * 4).toNat cap) qv) rb ents ks draws st.taken st.clock st.next (regL ents st) st.q := by
 obtain ⟨⟨kv, dv, rv, qv', h0, h1, h2, h3, h4, h5, h6, h7', hk, hd, hr, hq⟩, hroom⟩ := h
 have ho := only_putK w rb (.int .i64 st.taken) (.int .i64 st.clock) (.int .i64 st.next) (.slice (some ⟨gb, 0, none⟩) (ents * 4).toNat cap) qv
 obtain ⟨c3, c4, c5, c6, c7⟩ := putK_at hroom (.int .i64 st.taken) (.int .i64 st.clock) (.int .i64 st.next) (.slice (some ⟨gb, 0, none⟩) (ents * 4).toNat cap) qv
 obtain ⟨qv2, q1, q2⟩ := hc.que
 have e : qv2 = qv := by rw [h7] at q1; exact (Option.some.inj q1).symm
 subst e
 refine ⟨⟨kv, dv, _, qv2, putK_other (by omega) h0, putK_other (by omega) h1, putK_other (by omega) h2, c3, c4, c5, c6, c7, (hk.only ho hR').mono (fun b hb => .inl hb), (hd.only ho hR').mono (fun b hb => .inl hb), ⟨by rw [regL_length]; omega, .inr ⟨gb, 0, cap, by rw [regL_length], .inr (.inr rfl), ?_⟩⟩, (q2.only ho hR'').mono (fun b hb => .inr (.inl hb))⟩, (((((hroom.setCell _ _).setCell _ _).setCell _ _).setCell _ _).setCell _ _)⟩
 intro j v hv
 have hj : j < (ents * 4).toNat := by have := (List.getElem?_eq_some_iff.1 hv).1; simpa [ints, regL] using this
 simp [ints, regL, hj] at hv
 subst hv
 rw [Nat.zero_add]
 exact ho.at (hc.regs j hj) hg
structure BkLen (n : Nat) (k : BkD) : Prop where
 il : k.il.length ≤ 4000 * n
 i4 : k.il.length % 4 = 0
 rl : k.rl.length ≤ 4 * n
 r4 : k.rl.length % 4 = 0
 bl : k.bl.length ≤ 4 * n
 b4 : k.bl.length % 4 = 0
theorem BkLen.next {n : Nat} {k : BkD} (h : BkLen n k) : BkLen (n + 1) k := ⟨by have := h.il; omega, h.i4, by have := h.rl; omega, h.r4, by have := h.bl; omega, h.b4⟩
theorem SpareR.only {S : Nat → Prop} {w w' : World} {g n k : Nat} (h : SpareR w g n k) (ho : Only S w w') (hg : ¬ S g) : SpareR w' g n k :=
 fun i h1 h2 => (h i h1 h2).only ho hg
def LentQ (lo hi top : Nat) (w : World) (v a m : Value) (rs : List Rec) : Prop := rs.length ≤ 1048576 ∧
 ((v = .slice none 0 0 ∧ rs = [] ∧ a = .slice none 0 0 ∧ m = .slice none 0 0) ∨
  ∃ ra b off cap g h ss, v = .slice (some ra) rs.length cap ∧ (0 < rs.length → ra = ⟨b, off, none⟩) ∧ a = .slice (some ⟨g, 0, none⟩) rs.length (rs.length + 8) ∧ m = .slice (some ⟨h, 0, none⟩) rs.length rs.length ∧ LentR lo hi w g h b off rs.length ss rs ∧ SpareR w g rs.length (rs.length + 8) ∧ ∀ y, LentS g ss y → hi ≤ y ∧ y < top)
theorem LentQ.only {S : Nat → Prop} {lo hi top : Nat} {w w' : World} {v a m : Value} {rs : List Rec} (x : LentQ lo hi top w v a m rs) (ho : Only S w w') (hS : ∀ b, S b → lo ≤ b ∧ b < hi) : LentQ lo hi top w' v a m rs := by
 obtain ⟨h0, h | ⟨ra, b, off, cap, g, h, ss, h1, h2, h3, h4, h5, h6, h7⟩⟩ := x
 ·exact ⟨h0, .inl h⟩
 ·exact ⟨h0, .inr ⟨ra, b, off, cap, g, h, ss, h1, h2, h3, h4, h5.only ho hS, h6.only ho (fun hc => by have := hS g hc; have := h5.glo; omega), h7⟩⟩
theorem LentQ.below {lo hi top : Nat} {w w' : World} {v a m : Value} {rs : List Rec} (x : LentQ lo hi top w v a m rs) (hb : Below w.heap.size w w') : LentQ lo hi top w' v a m rs :=
 x.only (Only.new (S := fun _ => False) hb) (by simp)
theorem LentQ.recIn {lo hi top : Nat} {w : World} {v a m : Value} {rs : List Rec} (x : LentQ lo hi top w v a m rs) : ∃ sa sc, a = .slice sa rs.length sc ∧ RecIn w sa rs := by
 obtain ⟨h0, ⟨_, rfl, rfl, _⟩ | ⟨ra, b, off, cap, g, h, ss, h1, h2, rfl, h4, h5, h6, h7⟩⟩ := x
 ·exact ⟨none, 0, rfl, fun i r hr => by simp at hr⟩
 ·exact ⟨_, _, rfl, h5.recIn⟩
theorem lentRecords_any {B : Nat} (v : Value) (rs : List Rec) (w : World) (hv : RecsX B w v rs) (hB : B ≤ w.heap.size) (hB0 : 0 < B) :
  Calls Tryz.prog 37 #[v] w fun e w' => ∃ sa sc ma mn mc, e = .returned (.tuple #[.slice sa rs.length sc, .slice ma mn mc]) ∧ Below w.heap.size w w' ∧ LentQ B w.heap.size w'.heap.size w' v (.slice sa rs.length sc) (.slice ma mn mc) rs := by
 obtain ⟨h0, ⟨rfl, rfl⟩ | ⟨a, b', off', cap, rfl, h2', h4'⟩⟩ := hv
 ·refine (lentRecords_nil w).mono ?_
  rintro e w' ⟨rfl, rfl⟩
  exact ⟨none, 0, none, 0, 0, rfl, Below.refl _ _, by simp, .inl ⟨rfl, rfl, rfl, rfl⟩⟩
 ·obtain ⟨b, off, h2, h3, h4⟩ : ∃ b off, (0 < rs.length → a = ⟨b, off, none⟩) ∧ b < B ∧ RecsAtX B w b off rs := by
   by_cases hp : 0 < rs.length
   ·exact ⟨b', off', fun h => (h2' h).1, (h2' hp).2, h4'⟩
   ·exact ⟨0, 0, fun h => absurd h hp, hB0, fun i r hr => by have := (List.getElem?_eq_some_iff.1 hr).1; omega⟩
  refine (lentRecords_gen a b off cap rs w h2 h0 hB h3 h4).mono ?_
  rintro e w' ⟨g, h, ss, rfl, hb, hL, hS⟩
  refine ⟨_, _, _, _, _, rfl, hb, h0, .inr ⟨a, b, off, cap, g, h, ss, rfl, h2, rfl, rfl, hL, hS, ?_⟩⟩
  rintro y (rfl | ⟨i, s, q1, q2⟩)
  ·exact ⟨hL.glo, hL.ghi⟩
  ·have := hL.sep i s y q1 q2
   omega
theorem wholeRecords_any {lo hi top : Nat} (v a m : Value) (rs : List Rec) (w : World) (x : LentQ lo hi top w v a m rs) :
  Calls Tryz.prog 40 #[a, m, v] w fun e w' => e = .returned (.bool true) ∧ Only (fun y => hi ≤ y ∧ y < top) w w' := by
 obtain ⟨h0, ⟨rfl, rfl, rfl, rfl⟩ | ⟨ra, b, off, cap, g, h, ss, rfl, h2, rfl, rfl, h5, h6, h7⟩⟩ := x
 ·refine (wholeRecords_nil _ _ w).mono ?_
  rintro e w' ⟨rfl, rfl⟩
  exact ⟨rfl, Only.refl _ _⟩
 ·refine (wholeRecords_gen ra lo hi g h b off cap ss rs w h2 h0 h5 h6).mono ?_
  rintro e w' ⟨rfl, ho⟩
  exact ⟨rfl, ho.mono (fun k _ hk => h7 k hk)⟩
structure OpAt (W : World) (ob : Nat) (kind b : Int) (rv qv sv : Value) : Prop where
 c0 : W.cell? ⟨ob, 0, none⟩ = some (.int .i64 kind)
 c2 : W.cell? ⟨ob, 2, none⟩ = some (.int .i64 b)
 c8 : W.cell? ⟨ob, 8, none⟩ = some rv
 c9 : W.cell? ⟨ob, 9, none⟩ = some qv
 c10 : W.cell? ⟨ob, 10, none⟩ = some sv
theorem OpAt.new (w : World) (kind a b c d ents : Int) (kv l rv qv sv : Value) (T : TypeId) : OpAt (w.alloc (.cells #[.int .i64 kind, .int .i64 a, .int .i64 b, .int .i64 c, .int .i64 d, .int .i64 ents, kv, l, rv, qv, sv] T)) w.heap.size kind b rv qv sv :=
 ⟨by simp [go_sem], by simp [go_sem], by simp [go_sem], by simp [go_sem], by simp [go_sem]⟩
theorem OpAt.below {W W' : World} {ob : Nat} {kind b : Int} {rv qv sv : Value} {B : Nat} (h : OpAt W ob kind b rv qv sv) (hb : Below B W W') (ho : ob < B) : OpAt W' ob kind b rv qv sv :=
 ⟨below_at hb h.c0 ho, below_at hb h.c2 ho, below_at hb h.c8 ho, below_at hb h.c9 ho, below_at hb h.c10 ho⟩
def strB (s : ByteArray) : List Int := s.data.toList.map fun b => (b.toNat : Int)
theorem strB_length (s : ByteArray) : (strB s).length = s.size := by simp [strB]
theorem bytesWorld_below (w : World) (e : TypeId) (s : ByteArray) : Below w.heap.size w (Lib.bytesWorld w e s) :=
 ⟨rfl, rfl, rfl, by rw [Lib.bytesWorld_size]; omega, fun k hk => Lib.bytesWorld_at_old w e s k hk⟩
theorem bytesWorld_row (w : World) (s : ByteArray) (hs : s.size ≤ 1000) : BRow w.heap.size (Lib.bytesWorld w 5 s) (.slice (some ⟨w.heap.size, 0, none⟩) (strB s).length (grownCap w s.size 0 5)) (strB s) := by
 have hge := grownCap_ge w s.size 0 5
 have hcm : grownCap w s.size 0 5 ≤ maxLen := grownCap_le_maxLen w s.size 0 5 (by simp only [maxLen]; omega)
 have hl := strB_length s
 have hsz : (Lib.bytesCells w 5 s).size = grownCap w s.size 0 5 := by
  simp [Lib.bytesCells]
  have : s.data.size = s.size := rfl
  omega
 refine ⟨w.heap.size, _, _, _, rfl, Nat.le_refl _, Lib.bytesWorld_at_new w 5 s, ?_, by omega, hcm, hsz, ?_⟩
 ·intro i hi; simp; omega
 ·have : (Lib.bytesCells w 5 s).toList = byteV (strB s) ++ List.replicate (grownCap w s.size 0 5 - s.size) (.int .u8 0) := by
   simp [Lib.bytesCells, byteV, strB, Function.comp_def]
  rw [this, show (strB s).length = (byteV (strB s)).length by simp [byteV]]
  exact List.take_left
theorem begin_any (w : World) (s : ByteArray) (hs : s.size ≤ 1000) :
  Calls Tryz.prog 75 #[.string s] w fun e w' => ∃ wb lv, e = .returned (.pointer (some ⟨wb, 0, none⟩)) ∧ Below w.heap.size w w' ∧ w.heap.size ≤ wb ∧ WrP w.heap.size w' wb lv (strB s) ∧ (∀ b, some b = lv.ownBlock → w.heap.size ≤ b) := by
 have hcv := Lib.run_convert_string_bytes (P := Tryz.prog) w 9 56 5 s Tryz.underlying9 Tryz.underlying56 Tryz.underlying5
 have hrow := bytesWorld_row w s hs
 have hbel := bytesWorld_below w 5 s
 have hsz := Lib.bytesWorld_size w 5 s
 generalize Lib.bytesWorld w 5 s = W1 at hcv hrow hbel hsz
 generalize grownCap w s.size 0 5 = cap at hcv hrow
 rw [strB_length] at hrow
 have Hrow := hide hrow
 have Hbel := hide hbel
 clear hrow hbel
 go_enter Tryz.func75, Tryz.ntmps75
 go_wp2_with fail
 go_ret
 obtain ⟨W2, hW2⟩ : ∃ W2, W2 = W1.alloc (.cells #[.slice (some ⟨w.heap.size, 0, none⟩) s.size cap] 167) := ⟨_, rfl⟩
 have hb2 : Below W1.heap.size W1 W2 := by rw [hW2]; exact (Below.refl _ _).alloc (Nat.le_refl _) _
 rw [← hW2]
 refine ⟨w.heap.size + 1, _, rfl, Hbel.out.trans (hb2.mono (by omega)), by omega, ⟨?_, ?_, Hrow.out.keep (Only.new (S := fun _ => False) hb2) (by simp), ?_⟩, ?_⟩
 ·rw [hW2, World.cell?_alloc_at _ _ _ _ hsz.symm]; rfl
 ·intro j hj
  obtain rfl : j = 0 := by omega
  rw [hW2, World.cell?_alloc_at _ _ _ _ hsz.symm, World.frozen?_alloc_at _ _ _ _ hsz.symm]
  exact ⟨rfl, rfl⟩
 ·simp [Value.ownBlock]
 ·intro b hb; simp [Value.ownBlock] at hb; omega
theorem results_cell1 {fn : Func} {p : Tmp} {ty : TypeId} (h : fn.results = #[.cell p ty]) (tmps : Array Value) (P : Program) (w : World) :
  (results fn tmps).run P w = ((asAddr (tmps.getD p undef)).run P w).andThen fun a w₁ => (loadVar ty a).run P w₁ := by
 simp only [results, h]
 simp [Sem.run_bind, Result.andThen]
def sumS (s c : Int) : Int := ((33 * s) % 4294967296 + c) % 4294967296
def sumF (l : List Int) : Int := l.foldl sumS 5381
def sumB (l : List Int) : List Int := [sumF l / 16777216 % 256, sumF l / 65536 % 256, sumF l / 256 % 256, sumF l % 256]
theorem sumS_lt (s c : Int) : 0 ≤ sumS s c ∧ sumS s c < 4294967296 := by unfold sumS; omega
theorem sumF_lt (l : List Int) : 0 ≤ sumF l ∧ sumF l < 4294967296 := by
 unfold sumF
 rcases List.eq_nil_or_concat l with rfl | ⟨l', x, rfl⟩
 ·simp
 ·simp only [List.concat_eq_append, List.foldl_append, List.foldl_cons, List.foldl_nil]
  exact sumS_lt _ _
theorem sum_any (w : World) (b off cap : Nat) (l : List Int) (hrow : RowAt w b off (byteV l)) (hl : l.length ≤ 2000000000000000) (hv : ∀ c ∈ l, 0 ≤ c ∧ c < 256) :
  Calls Tryz.prog 102 #[.slice (some ⟨b, off, none⟩) l.length cap] w fun e w' => e = .returned (.agg #[.int .u8 (sumF l / 16777216 % 256), .int .u8 (sumF l / 65536 % 256), .int .u8 (sumF l / 256 % 256), .int .u8 (sumF l % 256)]) ∧ Below w.heap.size w w' := by
 have Hrow := hide hrow
 have Hv := hide hv
 clear hrow hv
 go_enter Tryz.func102, Tryz.ntmps102
 go_wp2_with fail
 go_loopg [3, 5, 8] (l.length + 2) (fun g s3 s5 s8 wr => ∃ (i : Nat), s8 = .int .i64 i ∧ s3 = .int .u32 (sumF (l.take i)) ∧ l.length - i + 1 ≤ g ∧ i ≤ l.length ∧ Hid (wr = w.alloc (.cells #[.int .u8 0, .int .u8 0, .int .u8 0, .int .u8 0] 157)))
 case atStart => exact ⟨0, rfl, by simp [sumF], by omega, by omega, rfl⟩
 case round =>
  obtain ⟨i, rfl, rfl, hg, hi, hI⟩ := hrel
  obtain rfl := hI.out
  by_cases hlt : i < l.length
  ·have d1 : decide ((i : Int) < (l.length : Int)) = true := by simp; omega
   have hii : (i : Int) < (l.length : Int) := by omega
   have hw : IntKind.i64.wrap ((i : Int) + 1) = (i : Int) + 1 := by rw [IntKind.wrap_i64]; omega
   have hc := Hrow.out i (.int .u8 l[i]) (by simp [byteV, hlt])
   have hcb := lt_of_cell hc
   have hc' := below_at ((Below.refl w.heap.size w).alloc (Nat.le_refl _) (.cells #[.int .u8 0, .int .u8 0, .int .u8 0, .int .u8 0] 157)) hc hcb
   have hx := Hv.out l[i] (List.getElem_mem hlt)
   have HS : Hid (sumF (l.take (i + 1)) = sumS (sumF (l.take i)) l[i]) := by
    show _ = _
    unfold sumF
    rw [List.take_succ_eq_append_getElem hlt, List.foldl_append]
    rfl
   have hsl := sumF_lt (l.take i)
   generalize sumF (l.take i) = s at HS hsl ⊢
   generalize l[i] = x at hc hc' hx HS
   have w1 : IntKind.u32.wrap (33 * s) = (33 * s) % 4294967296 := by simp [IntKind.wrap, IntKind.bits, IntKind.signed]
   have w2 : IntKind.u32.wrap x = x := by simp [IntKind.wrap, IntKind.bits, IntKind.signed]; omega
   have w3 : IntKind.u32.wrap ((33 * s) % 4294967296 + x) = sumS s x := by simp [IntKind.wrap, IntKind.bits, IntKind.signed, sumS]
   go_wp2_with fail
   go_roundg (l.length - (i + 1) + 1)
   case measure => omega
   case rel => exact ⟨i + 1, by go_num, by rw [HS.out], Nat.le_refl _, by omega, rfl⟩
  ·have d1 : decide ((i : Int) < (l.length : Int)) = false := by simp; omega
   have hq : l.take i = l := List.take_of_length_le (by omega)
   rw [hq]
   have hsl := sumF_lt l
   generalize hss : sumF l = s at hsl ⊢
   have Hss := hide hss
   clear hss
   go_wp2_with fail
   have h24 : s / 16777216 % 256 = s / 16777216 := by omega
   refine bodyPost_ret (v := .agg #[.int .u8 (s / 16777216), .int .u8 (s / 65536 % 256), .int .u8 (s / 256 % 256), .int .u8 (s % 256)]) ?_ rfl ?_
   ·rw [results_cell1 rfl]; simp [go_sem]
   rw [Hss.out, h24]
   exact ⟨rfl, (Below.refl _ _).alloc (Nat.le_refl _) _⟩
theorem step_append_b {P : Program} {w : World} {ops : Array Oper} {o : Oper} {a : Act} {K : Act → World → Prop} {Q : Exit → Act → World → Prop} {E : Prop} (hgd : o.guard = none) (s x : Operand) (t : TypeId)
  (ho : o.op = .call { callee := .builtin .append, args := #[s, x], argTypes := #[t, t] }) (base : Nat) (ht : P.underlying t = some (.slice 5)) (hinfo : (P.info? 5).map (fun i => (i.zero, i.size, i.bytes)) = some (some (.int .u8 0), 1, 1))
  (lv : Value) (l : List Int) (hs : a.eval s = lv) (h : BRow base w lv l) (b off c : Nat) (y : List Int) (hx : a.eval x = .slice (some ⟨b, off, none⟩) y.length c) (hnews : RowAt w b off (byteV y)) (hbytes : l.length + y.length ≤ 140737488355328) (hbase : base ≤ w.heap.size)
  (hK : ∀ v' w', Hid (BRow base w' v' (l ++ y)) → Hid (w.grownBy w' lv.ownBlock) → Hid (v'.ownBlock = lv.ownBlock ∨ v'.ownBlock = some w.heap.size) → K (a.put o.dst v') w') :
  if Region.wanted o (yielded ops a.tmps) = true then Oper.wp P o a w K Q else E := by
 have hw : Region.wanted o (yielded ops a.tmps) = true := by simp [Region.wanted, hgd]
 rw [if_pos hw]
 obtain ⟨i, hi, hz, hsz, hby⟩ := info_parts hinfo
 obtain ⟨v', w', hr, h2, h3, h4⟩ := run_append_b (P := P) base t o.type ht i hi hz hsz hby lv l h ⟨b, off, none⟩ c y (fun j u hu => by rw [Addr.add_lit]; exact hnews j u hu) hbytes hbase
 unfold Oper.wp
 simp [execOp, ho, resolve, invoke, builtin, hs, hx, hr, Result.andThen]
 exact hK v' w' h2 h3 h4
theorem sumB_len (l : List Int) : (sumB l).length = 4 := rfl
theorem sumB_bytes (l : List Int) : ∀ b ∈ sumB l, 0 ≤ b ∧ b < 256 := by
 have := sumF_lt l
 intro b hb
 simp only [sumB, List.mem_cons, List.not_mem_nil, or_false] at hb
 rcases hb with rfl | rfl | rfl | rfl <;> omega
theorem end_any (base wb : Nat) (lv : Value) (l : List Int) (w : World) (h : WrP base w wb lv l) (hb : base ≤ w.heap.size) (hl : l.length ≤ 1000000) (hv : ∀ c ∈ l, 0 ≤ c ∧ c < 256) :
  Calls Tryz.prog 77 #[.pointer (some ⟨wb, 0, none⟩)] w fun e w' => ∃ v, e = .returned v ∧ Only (fun b => some b = lv.ownBlock) w w' ∧ BRow base w' v (l ++ sumB l) := by
 have hc := h.cell
 obtain ⟨g, cap, rfl, hg1, hg2, hrow⟩ := h.row.row
 have H := hide h
 have Hrow := hide hrow
 have hwl := lt_of_cell hc
 have HS := hide (sum_any w g 0 cap l hrow (by omega) hv)
 clear h hrow hv
 go_enter Tryz.func77, Tryz.ntmps77
 go_wp2_with fail
 refine HS.out.mono ?_
 rintro e w1 ⟨rfl, hb1⟩
 have hc1 := below_at hb1 hc hwl
 have hz1 := hb1.size
 have HB1 := hide hb1
 have H1 := hide (H.out.row.keep (Only.new (S := fun _ => False) hb1) (by simp))
 have HsB : Hid (sumB l = [sumF l / 16777216 % 256, sumF l / 65536 % 256, sumF l / 256 % 256, sumF l % 256]) := by show _ = _; rfl
 generalize sumF l / 16777216 % 256 = z0 at HsB ⊢
 generalize sumF l / 65536 % 256 = z1 at HsB ⊢
 generalize sumF l / 256 % 256 = z2 at HsB ⊢
 generalize sumF l % 256 = z3 at HsB ⊢
 clear hb1 HS
 go_wp2_with fail
 obtain ⟨W2, hW2⟩ : ∃ W2, W2 = w1.alloc (.cells #[.int .u8 z0, .int .u8 z1, .int .u8 z2, .int .u8 z3] 157) := ⟨_, rfl⟩
 have hb2 : Below w1.heap.size w1 W2 := by rw [hW2]; exact (Below.refl _ _).alloc (Nat.le_refl _) _
 have hz2 : W2.heap.size = w1.heap.size + 1 := by rw [hW2]; simp
 have HR2 : Hid (RowAt W2.drew w1.heap.size 0 (byteV [z0, z1, z2, z3])) := by
  intro j v hv
  rw [hW2, Nat.zero_add]
  match j, hv with
  | 0, hv => simp [byteV] at hv; subst hv; simp [go_sem]
  | 1, hv => simp [byteV] at hv; subst hv; simp [go_sem]
  | 2, hv => simp [byteV] at hv; subst hv; simp [go_sem]
  | 3, hv => simp [byteV] at hv; subst hv; simp [go_sem]
  | j + 4, hv => simp [byteV] at hv
 have c2 := below_at hb2 hc1 (by omega)
 have HB2 : Hid (Below w.heap.size w W2) := HB1.out.trans (hb2.mono (by omega))
 have H2 : Hid (BRow base W2.drew (.slice (some ⟨g, 0, none⟩) l.length cap) l) := (H1.out.keep (Only.new (S := fun _ => False) hb2) (by simp)).keep (Only.new (S := fun _ => False) (Below.refl _ _).drew) (by simp)
 have hne : ¬ some wb = (Value.slice (some ⟨g, 0, none⟩) l.length cap).ownBlock := H.out.sep
 have Hne := hide hne
 rw [← hW2]
 clear hW2 hb2 hc hc1 hne
 go_region_held3 (fun W' => W'.cell? ⟨wb, 0, none⟩ = some (.slice (some ⟨g, 0, none⟩) l.length cap))
  (first | exact c2 | exact c3)
  (first | (refine step_append_b rfl (.tmp 12) (.tmp 13) 56 rfl base Tryz.underlying56 Tryz.infoU8 _ l rfl H2.out w1.heap.size 0 4 [z0, z1, z2, z3] rfl HR2.out (by simp; omega) (show base ≤ W2.heap.size by omega) ?_; intro v4 w4 hown4 hgr4 hwh4; (have ho4 : Only (fun b => some b = (Value.slice (some ⟨g, 0, none⟩) l.length cap).ownBlock) W2.drew w4 := only_of_grown hgr4.out); (have c3 := ho4.at (w := W2.drew) c2 Hne.out)))
 have hO : Only (fun b => some b = (Value.slice (some ⟨g, 0, none⟩) l.length cap).ownBlock) w w4 := (Only.new HB2.out).trans ((Only.new (Below.refl _ _).drew).trans ho4)
 have HO := hide hO
 clear hO ho4 c3 c2
 go_wp2_with fail
 go_ret
 exact ⟨v4, rfl, HO.out, by rw [HsB.out]; exact hown4.out⟩
end Go.Proofs.YtndlmgocldckfaaGreat
