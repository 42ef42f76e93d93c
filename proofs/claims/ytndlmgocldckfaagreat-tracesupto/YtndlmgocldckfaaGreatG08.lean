import Derived.Test.YtndlmgocldckfaaGreatG01
import Derived.Deep.RegionWith
import Derived.Test.YtndlmgocldckfaaGreatG03
import Derived.Test.YtndlmgocldckfaaGreatG02
import Derived.BigQuiet
import Derived.Deep.QuietTactic
import Derived.Test.YtndlmgocldckfaaGreatG07
import Derived.StillTailTactics
import Derived.Deep.DeepCutAuto
import Derived.Deep.MidRow
import Derived.Laws.ResultCell
import Derived.Conc.LoneCalls
namespace Go.Proofs.YtndlmgocldckfaaGreat
open Go.RowKit
set_option linter.unusedVariables false
set_option linter.unusedSimpArgs false
set_option maxRecDepth 100000
set_option maxHeartbeats 4000000
theorem only_grown {w w' : World} {row : Option Nat} (h : w.grownBy w' row) : Only (fun b => some b = row) w w' := ⟨h.os, h.tape, h.output, h.size, fun k hk hn => h.block k hk hn⟩
def CodesIn (lo : Nat) (w : World) (ov : Value) (vs : List Value) (ks : List (List Ins)) : Prop :=
 ∀ (i : Nat) v l, vs[i]? = some v → ks[i]? = some l → CodeIn (fun b => lo ≤ b ∧ b < w.heap.size ∧ some b ≠ ov.ownBlock) w v l
theorem CodesIn.step {lo : Nat} {w w1 W w2 : World} {ov v1 v2 : Value} {vs : List Value} {ks : List (List Ins)} {k n : Nat} {e : TypeId} (h : CodesIn lo w ov vs ks) (hvs : vs.length = k) (hk : k < ks.length)
  (hown : w.ownsRow lo e 1 ov n vs) (hb1 : Below w.heap.size w w1) (hc : CodeIn (fun b => w.heap.size ≤ b ∧ b < w1.heap.size) w1 v1 ks[k]) (hbW : Below w1.heap.size w1 W) (hW : w1.heap.size < W.heap.size) (hlo : lo ≤ w.heap.size)
  (hg : W.grownBy w2 ov.ownBlock) (hwh : v2.ownBlock = ov.ownBlock ∨ v2.ownBlock = some W.heap.size) : CodesIn lo w2 v2 (vs ++ [v1]) ks := by
 have hz1 := hb1.size
 have hz2 := hg.size
 have hlt : ∀ b, ov.ownBlock = some b → b < w.heap.size := fun b hb => (hown.lt b hb).2
 intro i v l hv hl
 by_cases hi : i < k
 ·rw [List.getElem?_append_left (by omega)] at hv
  have := h i v l hv hl
  refine (((this.only (Only.new (S := fun _ => False) hb1) (by simp)).only ((Only.new (S := fun _ => False) (hbW.mono (Nat.le_refl _)))) (by simp)).only (only_grown hg) (by intro b hb; exact hb.2.2)).mono ?_
  intro b hb
  refine ⟨hb.1, by omega, ?_⟩
  rcases hwh with h | h <;> rw [h]
  ·exact hb.2.2
  ·intro e; have := Option.some.inj e; omega
 ·rw [List.getElem?_append_right (by omega)] at hv
  have hik : i = k := by
   have := (List.getElem?_eq_some_iff.1 hv).1
   simp at this; omega
  subst hik
  rw [hvs] at hv
  simp at hv
  subst hv
  have : l = ks[i] := by rw [List.getElem?_eq_getElem hk] at hl; exact (Option.some.inj hl).symm
  subst this
  refine ((hc.only (Only.new (S := fun _ => False) hbW) (by simp)).only (only_grown hg) (by intro b hb e; have := hlt b e.symm; omega)).mono ?_
  intro b hb
  refine ⟨by omega, by omega, ?_⟩
  rcases hwh with h | h <;> rw [h]
  ·intro e; have := hlt b e.symm; omega
  ·intro e; have := Option.some.inj e; omega
end Go.Proofs.YtndlmgocldckfaaGreat

namespace Go.Proofs.YtndlmgocldckfaaGreat
open Go.RowKit
theorem in_any (n lo hi : Int) (w : World) :
  Calls Tryz.prog 57 #[.int .i64 n, .int .i64 lo, .int .i64 hi] w fun e w' => e = .returned (.bool (inB n lo hi)) ∧ w' = w := by
 by_cases h1 : lo ≤ n <;> by_cases h2 : n ≤ hi
 all_goals
  go_enter Tryz.func57, Tryz.ntmps57
  go_wp2
  go_ret
  exact ⟨by simp [inB, *], rfl⟩
theorem value_any (n : Int) (w : World) :
  Calls Tryz.prog 99 #[.int .i64 n] w fun e w' => e = .returned (.bool (inB n (-1000000000) 1000000000)) ∧ w' = w := by
 go_enter Tryz.func99, Tryz.ntmps99
 go_wp2_with (go_at_call 57; refine (in_any _ _ _ _).mono ?_; rintro e w' ⟨rfl, rfl⟩)
 go_ret
 exact ⟨rfl, rfl⟩
end Go.Proofs.YtndlmgocldckfaaGreat

namespace Go.Proofs.YtndlmgocldckfaaGreat
open Go.RowKit
set_option linter.unusedVariables false
set_option linter.unusedSimpArgs false
set_option maxRecDepth 100000
set_option maxHeartbeats 4000000
def evIns (x : Ev) : Ins := ⟨x.time, x.number, x.kind, x.entity⟩
def EvsIn (R : Nat → Prop) (w : World) (v : Value) (q : List Ev) : Prop :=
 (v = .slice none 0 0 ∧ q = []) ∨ ∃ b off cap, v = .slice (some ⟨b, off, none⟩) q.length cap ∧ q.length ≤ cap ∧ cap ≤ 9223372036854775807 ∧ R b ∧ CodeAt w b off (q.map evIns)
theorem EvsIn.mono {R R' : Nat → Prop} {w : World} {v : Value} {q : List Ev} (h : EvsIn R w v q) (hR : ∀ b, R b → R' b) : EvsIn R' w v q := by
 obtain h | ⟨b, off, cap, rfl, hl, hm, hb, hc⟩ := h
 ·exact .inl h
 ·exact .inr ⟨b, off, cap, rfl, hl, hm, hR b hb, hc⟩
theorem EvsIn.only {R S : Nat → Prop} {w w' : World} {v : Value} {q : List Ev} (h : EvsIn R w v q) (ho : Only S w w') (hR : ∀ b, R b → ¬ S b) : EvsIn R w' v q := by
 obtain h | ⟨b, off, cap, rfl, hl, hm, hb, hc⟩ := h
 ·exact .inl h
 ·exact .inr ⟨b, off, cap, rfl, hl, hm, hb, hc.only ho (hR b hb)⟩
theorem EvsIn.form {R : Nat → Prop} {w : World} {v : Value} {q : List Ev} (h : EvsIn R w v q) : ∃ sa sc, v = .slice sa q.length sc := by
 obtain ⟨rfl, rfl⟩ | ⟨b, off, cap, rfl, _⟩ := h
 ·exact ⟨_, _, rfl⟩
 ·exact ⟨_, _, rfl⟩
structure RefK (R : Nat → Prop) (w : World) (rb : Nat) (ents : Int) (ks : List (List Ins)) (draws : List Int) (taken clock next : Int) (regs : List Int) (q : List Ev) : Prop where
 body : ∃ kv dv rv qv, w.cell? ⟨rb, 0, none⟩ = some (.int .i64 ents) ∧ w.cell? ⟨rb, 1, none⟩ = some kv ∧ w.cell? ⟨rb, 2, none⟩ = some dv ∧ w.cell? ⟨rb, 3, none⟩ = some (.int .i64 taken) ∧ w.cell? ⟨rb, 4, none⟩ = some (.int .i64 clock) ∧
  w.cell? ⟨rb, 5, none⟩ = some (.int .i64 next) ∧ w.cell? ⟨rb, 6, none⟩ = some rv ∧ w.cell? ⟨rb, 7, none⟩ = some qv ∧ KindsIn R w kv ks ∧ IntsIn R w dv draws ∧ IntsIn R w rv regs ∧ EvsIn R w qv q
 room : Room w rb 8
theorem CodeAt.take {w : World} {b off : Nat} {l : List Ins} (h : CodeAt w b off l) (k : Nat) : CodeAt w b off (l.take k) := by
 intro i x hx
 rw [List.getElem?_take] at hx
 split at hx
 ·exact h i x hx
 ·simp at hx
theorem CodeAt.drop {w : World} {b off : Nat} {l : List Ins} (h : CodeAt w b off l) (k : Nat) : CodeAt w b (off + k * 4) (l.drop k) := by
 intro i x hx
 rw [List.getElem?_drop] at hx
 obtain ⟨h0, h1, h2, h3⟩ := h (k + i) x hx
 refine ⟨?_, ?_, ?_, ?_⟩
 ·rw [← h0]; congr 2; omega
 ·rw [← h1]; congr 2; omega
 ·rw [← h2]; congr 2; omega
 ·rw [← h3]; congr 2; omega
theorem RefK.only {R S : Nat → Prop} {w w' : World} {rb : Nat} {ents : Int} {ks : List (List Ins)} {draws : List Int} {taken clock next : Int} {regs : List Int} {q : List Ev} (h : RefK R w rb ents ks draws taken clock next regs q) (ho : Only S w w') (hR : ∀ b, R b → ¬ S b) (hb : ¬ S rb) : RefK R w' rb ents ks draws taken clock next regs q := by
 obtain ⟨⟨kv, dv, rv, qv, h0, h1, h2, h3, h4, h5, h6, h7, hk, hd, hr, hq⟩, hroom⟩ := h
 exact ⟨⟨kv, dv, rv, qv, ho.at h0 hb, ho.at h1 hb, ho.at h2 hb, ho.at h3 hb, ho.at h4 hb, ho.at h5 hb, ho.at h6 hb, ho.at h7 hb, hk.only ho hR, hd.only ho hR, hr.only ho hR, hq.only ho hR⟩, hroom.only ho hb⟩
theorem RefK.mono {R R' : Nat → Prop} {w : World} {rb : Nat} {ents : Int} {ks : List (List Ins)} {draws : List Int} {taken clock next : Int} {regs : List Int} {q : List Ev} (h : RefK R w rb ents ks draws taken clock next regs q) (hR : ∀ b, R b → R' b) : RefK R' w rb ents ks draws taken clock next regs q := by
 obtain ⟨⟨kv, dv, rv, qv, h0, h1, h2, h3, h4, h5, h6, h7, hk, hd, hr, hq⟩, hroom⟩ := h
 exact ⟨⟨kv, dv, rv, qv, h0, h1, h2, h3, h4, h5, h6, h7, hk.mono hR, hd.mono hR, hr.mono hR, hq.mono hR⟩, hroom⟩
structure HapR (R : Nat → Prop) (base : Nat) (w wr : World) (kb qb mb : Nat) (ov : Value) (ents : Int) (ks : List (List Ins)) (draws : List Int) (E : Nat) (code : List Ins) (RES : KS × List Int × Int) (i : Nat) (tv : Value) (ov' : Value) (st : KS) (told : List Int) : Prop where
 only : Only (KSet kb qb mb ov) w wr
 moved : Moved w ov ov'
 ker : KerP R base wr kb qb mb ov' ents ks draws st
 ok : KOk ents ks.length draws st
 res : execF draws E (code.drop i) st told = RES
 le : i ≤ 40
 tl : told.length ≤ i
 owns : wr.ownsRow w.heap.size 3 1 tv told.length (ints told)
 sep : ∀ b, some b = tv.ownBlock → ¬ KSet kb qb mb ov' b
theorem owns_only {w w' : World} {base : Nat} {e : TypeId} {size : Nat} {v : Value} {n : Nat} {xs : List Value} {U : Nat → Prop} (h : w.ownsRow base e size v n xs) (ho : Only U w w') (hU : ∀ b, some b = v.ownBlock → ¬ U b) : w'.ownsRow base e size v n xs := by
 obtain ⟨h1, h2⟩ := h
 refine ⟨h1, ?_⟩
 rcases h2 with h2 | ⟨g, cap, cur, rfl, hg', hh, r⟩
 ·exact .inl h2
 ·exact .inr ⟨g, cap, cur, rfl, hg', (ho.block g (Array.getElem?_eq_some_iff.1 hh).1 (hU g rfl)).trans hh, r⟩
theorem kset_moved {w : World} {kb qb mb : Nat} {ov ov' : Value} (hm : Moved w ov ov') {b : Nat} (hb : b < w.heap.size) (hn : ¬ KSet kb qb mb ov b) : ¬ KSet kb qb mb ov' b := by
 rintro (rfl | rfl | rfl | hc)
 ·exact hn (.inl rfl)
 ·exact hn (.inr (.inl rfl))
 ·exact hn (.inr (.inr (.inl rfl)))
 ·rcases hm with e | ⟨g, e, hg⟩
  ·exact hn (.inr (.inr (.inr (hc.trans e))))
  ·rw [e] at hc; simp at hc; omega
section
variable {R : Nat → Prop} {base : Nat} {w wr w2 : World} {kb qb mb : Nat} {ov ov' ov2 : Value} {ents : Int} {ks : List (List Ins)} {draws : List Int} {E : Nat} {code : List Ins} {RES : KS × List Int × Int} {i j : Nat} {tv tv2 : Value} {st st2 : KS} {told t2 : List Int}
theorem HapR.next (h : HapR R base w wr kb qb mb ov ents ks draws E code RES i tv ov' st told) (ho : Only (KSet kb qb mb ov') wr w2) (hm : Moved wr ov' ov2) (hk : KerP R base w2 kb qb mb ov2 ents ks draws st2) (hok : KOk ents ks.length draws st2) (hres : execF draws E (code.drop j) st2 t2 = RES) (hj : j ≤ 40) (hl : t2.length ≤ j)
  (howns : w2.ownsRow w.heap.size 3 1 tv2 t2.length (ints t2)) (hsep : ∀ b, some b = tv2.ownBlock → ¬ KSet kb qb mb ov2 b) : HapR R base w w2 kb qb mb ov ents ks draws E code RES j tv2 ov2 st2 t2 := by
 refine ⟨⟨ho.os.trans h.only.os, ho.tape.trans h.only.tape, ho.output.trans h.only.output, Nat.le_trans h.only.size ho.size, ?_⟩, h.moved.trans hm h.only.size, hk, hok, hres, hj, hl, howns, hsep⟩
 intro k hk' hn
 rw [ho.block k (Nat.lt_of_lt_of_le hk' h.only.size) (kset_moved h.moved hk' hn), h.only.block k hk' hn]
theorem HapR.same (h : HapR R base w wr kb qb mb ov ents ks draws E code RES i tv ov' st told) (ho : Only (KSet kb qb mb ov') wr w2) (hm : Moved wr ov' ov2) (hk : KerP R base w2 kb qb mb ov2 ents ks draws st2) (hok : KOk ents ks.length draws st2) (hres : execF draws E (code.drop j) st2 told = RES) (hj : j ≤ 40) (hij : i ≤ j) : HapR R base w w2 kb qb mb ov ents ks draws E code RES j tv ov2 st2 told :=
 h.next ho hm hk hok hres hj (Nat.le_trans h.tl hij) (owns_only h.owns ho h.sep) (fun b hb => kset_moved hm (h.owns.lt b hb.symm).2 (h.sep b hb))
end
def stCells (s : KS) : List Value := [.int .i64 s.clock, .int .i64 s.next, .int .i64 s.taken] ++ (List.range 32).map fun j => .int .i64 (s.regs j)
theorem stCells_length (s : KS) : (stCells s).length = 35 := by simp [stCells]
theorem stCells_get (s : KS) (j : Nat) (v : Value) : (stCells s)[j]? = some v → (j = 0 ∧ v = .int .i64 s.clock) ∨ (j = 1 ∧ v = .int .i64 s.next) ∨ (j = 2 ∧ v = .int .i64 s.taken) ∨ ∃ i, i < 32 ∧ j = 3 + i ∧ v = .int .i64 (s.regs i) := by
 intro h
 by_cases h0 : j = 0
 ·subst h0; simp [stCells] at h; exact .inl ⟨rfl, h.symm⟩
 by_cases h1 : j = 1
 ·subst h1; simp [stCells] at h; exact .inr (.inl ⟨rfl, h.symm⟩)
 by_cases h2 : j = 2
 ·subst h2; simp [stCells] at h; exact .inr (.inr (.inl ⟨rfl, h.symm⟩))
 have hl : j < 35 := by have := (List.getElem?_eq_some_iff.1 h).1; rwa [stCells_length] at this
 refine .inr (.inr (.inr ⟨j - 3, by omega, by omega, ?_⟩))
 rw [stCells, List.getElem?_append_right (by simp; omega)] at h
 simp at h
 obtain ⟨a, ha, rfl⟩ := h
 rw [List.getElem?_range (by omega)] at ha
 simp at ha
 rw [← ha]
section
variable {R : Nat → Prop} {base : Nat} {w w' : World} {kb qb mb : Nat} {ov : Value} {ents : Int} {ks : List (List Ins)} {draws : List Int} {s s1 : KS}
theorem KerP.range (h : KerP R base w kb qb mb ov ents ks draws s) : w.rangeAt kb 4 (stCells s) := by
 intro j v hv
 rcases stCells_get s j v hv with ⟨rfl, rfl⟩ | ⟨rfl, rfl⟩ | ⟨rfl, rfl⟩ | ⟨i, hi, rfl, rfl⟩
 ·exact h.c4
 ·exact h.c5
 ·exact h.c6
 ·have := h.regs i hi
  rw [← this]; congr 2; omega
end
structure Beside (R : Nat → Prop) (kb qb mb sqb smb : Nat) (ov sov : Value) : Prop where
 ks : ∀ b, KSet kb qb mb ov b → ¬ QSet sqb smb sov b
 rs : ∀ b, R b → ¬ QSet sqb smb sov b
def recV (e : Ev) (tv : Value) : Value := .agg #[.int .i64 e.number, .int .i64 e.time, .int .i64 e.kind, .int .i64 e.entity, tv]
def Both (kb qb mb sqb smb : Nat) (ov sov : Value) (b : Nat) : Prop := KSet kb qb mb ov b ∨ QSet sqb smb sov b
end Go.Proofs.YtndlmgocldckfaaGreat

namespace Go.Proofs.YtndlmgocldckfaaGreat
open Go.RowKit Go.Conc
set_option linter.unusedVariables false
set_option linter.unusedSimpArgs false
set_option maxRecDepth 100000
set_option maxHeartbeats 4000000
section
variable {P : Program} {Q : Goroutine → World → Prop} {b : Frame} {a : Act} {k : List Item} {cs : List Frame} {w : World}
end
section
variable {R : Nat → Prop} {base base' : Nat} {kb qb mb sqb smb : Nat} {ov sov : Value} {ents : Int} {ks : List (List Ins)} {draws : List Int} {s s2 : KS} {qx : List Ev} {horizon : Int} {w : World} {why : Int} {r : Rec}
end
def rb (v : Value) : Option Nat := match v with | .agg cs => (cs.getD 4 undef).ownBlock | _ => none
structure MsInv (R : Nat → Prop) (base : Nat) (w wr : World) (kb qb mb c sqb smb : Nat) (ov : Value) (ents : Int) (ks : List (List Ins)) (draws : List Int) (n i : Nat) (st : KS) (ov' sov' : Value) (buf : Array Value) (recs : List Rec) : Prop where
 only : Only (fun b => KSet kb qb mb ov b ∨ b = c) w wr
 moved : Moved w ov ov'
 ker : KerP R base wr kb qb mb ov' ents ks draws st
 ok : KOk ents ks.length draws st
 spare : ∃ qx, QueP w.heap.size wr sqb smb sov' qx
 snew : ∀ b, QSet sqb smb sov' b → w.heap.size ≤ b
 bes : Beside R kb qb mb sqb smb ov' sov'
 chan : wr.heap[c]? = some (.chan n buf false i 0 false)
 size : buf.size = i
 len : recs.length = i
 recd : ∀ (j : Nat) v r, buf[j]? = some v → recs[j]? = some r → ∃ sa sc, v = recV r.e (.slice sa r.told.length sc) ∧ wr.ownsRow w.heap.size 3 1 (.slice sa r.told.length sc) r.told.length (ints r.told)
 rsep : ∀ (j : Nat) v b, buf[j]? = some v → some b = rb v → ¬ KSet kb qb mb ov' b ∧ ¬ QSet sqb smb sov' b ∧ b ≠ c ∧ b < wr.heap.size
 apart : ∀ (j k : Nat) v v' b, buf[j]? = some v → buf[k]? = some v' → some b = rb v → some b = rb v' → j = k
 ck : ¬ KSet kb qb mb ov' c
 cl : c < w.heap.size
 cr : ¬ R c
section
variable {R : Nat → Prop} {base : Nat} {w wr w2 : World} {kb qb mb c sqb smb n i : Nat} {ov ov' sov' ov2 sov2 : Value} {ents : Int} {ks : List (List Ins)} {draws : List Int} {st st2 : KS} {buf : Array Value} {recs : List Rec} {qx : List Ev}
theorem MsInv.after (hI : MsInv R base w wr kb qb mb c sqb smb ov ents ks draws n i st ov' sov' buf recs) (ho : Only (Both kb qb mb sqb smb ov' sov') wr w2) (hm : Moved wr ov' ov2) (hms : Moved wr sov' sov2) (hq : QueP w.heap.size w2 sqb smb sov2 qx) (hb : Beside R kb qb mb sqb smb ov2 sov2)
  (hk : KerP R base w2 kb qb mb ov2 ents ks draws st2) (hok : KOk ents ks.length draws st2) : MsInv R base w w2 kb qb mb c sqb smb ov ents ks draws n i st2 ov2 sov2 buf recs := by
 have hz := hI.only.size
 have hz2 := ho.size
 have hcl := hI.cl
 have hnQ : ∀ b, b < wr.heap.size → ¬ QSet sqb smb sov' b → ¬ QSet sqb smb sov2 b := by
  rintro b hb hn (rfl | rfl | hc)
  ·exact hn (.inl rfl)
  ·exact hn (.inr (.inl rfl))
  ·rcases hms with e | ⟨g, e, hg⟩
   ·exact hn (.inr (.inr (hc.trans e)))
   ·rw [e] at hc; simp at hc; omega
 have hcQ : ¬ QSet sqb smb sov' c := fun hc => by have := hI.snew c hc; omega
 refine ⟨?_, hI.moved.trans hm hz, hk, hok, ⟨qx, hq⟩, ?_, hb, ?_, hI.size, hI.len, ?_, ?_, hI.apart, kset_moved hm (by omega) hI.ck, hI.cl, hI.cr⟩
 ·refine ⟨ho.os.trans hI.only.os, ho.tape.trans hI.only.tape, ho.output.trans hI.only.output, by omega, ?_⟩
  intro k hk' hn
  rw [ho.block k (by omega) ?_, hI.only.block k hk' hn]
  rintro (hc | hc)
  ·exact kset_moved hI.moved hk' (fun h => hn (.inl h)) hc
  ·have := hI.snew k hc; omega
 ·rintro b (rfl | rfl | hc)
  ·exact hI.snew _ (.inl rfl)
  ·exact hI.snew _ (.inr (.inl rfl))
  ·rcases hms with e | ⟨g, e, hg⟩
   ·exact hI.snew b (.inr (.inr (hc.trans e)))
   ·rw [e] at hc; simp at hc; omega
 ·rw [ho.block c (by omega) (fun hc => by rcases hc with hc | hc; exact hI.ck hc; exact hcQ hc)]; exact hI.chan
 ·intro j v r hv hr
  obtain ⟨sa, sc, e1, e2⟩ := hI.recd j v r hv hr
  refine ⟨sa, sc, e1, owns_only e2 ho (fun b hb hc => ?_)⟩
  have hs := hI.rsep j v b hv (by rw [e1]; exact hb)
  rcases hc with hc | hc
  ·exact hs.1 hc
  ·exact hs.2.1 hc
 ·intro j v b hv hbv
  obtain ⟨s1, s2, s3, s4⟩ := hI.rsep j v b hv hbv
  exact ⟨kset_moved hm s4 s1, hnQ b s4 s2, s3, by omega⟩
theorem MsInv.below (hI : MsInv R base w wr kb qb mb c sqb smb ov ents ks draws n i st ov' sov' buf recs) (hb : Below wr.heap.size wr w2) : MsInv R base w w2 kb qb mb c sqb smb ov ents ks draws n i st ov' sov' buf recs := by
 obtain ⟨qx, hq⟩ := hI.spare
 exact hI.after (Only.new hb) (.inl rfl) (.inl rfl) (hq.below hb) hI.bes (hI.ker.below hb) hI.ok
theorem MsInv.sent {r : Rec} {sa : Option Addr} {sc lo : Nat} (hI : MsInv R base w wr kb qb mb c sqb smb ov ents ks draws n i st ov' sov' buf recs) (hown : wr.ownsRow w.heap.size 3 1 (.slice sa r.told.length sc) r.told.length (ints r.told))
  (hsep : ∀ b, some b = (Value.slice sa r.told.length sc).ownBlock → ¬ Both kb qb mb sqb smb ov' sov' b ∧ lo ≤ b ∧ b < wr.heap.size) (hlo : ∀ (j : Nat) v b, buf[j]? = some v → some b = rb v → b < lo) (hcl : c < lo) :
  MsInv R base w (wr.setChan c n (buf.push (recV r.e (.slice sa r.told.length sc))) false (i + 1) 0 false) kb qb mb c sqb smb ov ents ks draws n (i + 1) st ov' sov' (buf.push (recV r.e (.slice sa r.told.length sc))) (recs ++ [r]) := by
 have hz := hI.only.size
 have hcw := hI.cl
 have ho : Only (· = c) wr (wr.setChan c n (buf.push (recV r.e (.slice sa r.told.length sc))) false (i + 1) 0 false) := ⟨rfl, rfl, rfl, by simp [World.setChan], fun k hk hn => by simp only [World.setChan]; rw [Array.getElem?_setIfInBounds_ne (fun e => hn e.symm)]⟩
 have hch := heap_setChan wr c n (buf.push (recV r.e (.slice sa r.told.length sc))) false (i + 1) 0 false (by omega)
 have hsz := size_setChan wr c n (buf.push (recV r.e (.slice sa r.told.length sc))) false (i + 1) 0 false
 obtain ⟨qx, hq⟩ := hI.spare
 have hcQ : ¬ QSet sqb smb sov' c := fun hc => by have := hI.snew c hc; omega
 have hget : ∀ (j : Nat) v, (buf.push (recV r.e (.slice sa r.told.length sc)))[j]? = some v → (buf[j]? = some v ∧ j < i) ∨ (j = i ∧ v = recV r.e (.slice sa r.told.length sc)) := by
  intro j v hv
  rw [Array.getElem?_push] at hv
  split at hv
  ·rename_i hj
   rw [hI.size] at hj
   simp at hv
   exact .inr ⟨hj, hv.symm⟩
  ·have := (Array.getElem?_eq_some_iff.1 hv).1
   rw [hI.size] at this
   exact .inl ⟨hv, this⟩
 generalize wr.setChan c n (buf.push (recV r.e (.slice sa r.told.length sc))) false (i + 1) 0 false = W at ho hch hsz
 refine ⟨?_, hI.moved, hI.ker.only ho (fun b hb hc => by subst hc; exact hI.ck hb) (fun b hb hc => by subst hc; exact hI.cr hb), hI.ok, ⟨qx, hq.only ho (fun b hb hc => by subst hc; exact hcQ hb)⟩, hI.snew, hI.bes, hch, by simp [hI.size], by simp [hI.len], ?_, ?_, ?_, hI.ck, hI.cl, hI.cr⟩
 ·refine ⟨ho.os.trans hI.only.os, ho.tape.trans hI.only.tape, ho.output.trans hI.only.output, by omega, ?_⟩
  intro k hk hn
  rw [ho.block k (by omega) (fun e => hn (.inr e)), hI.only.block k hk hn]
 ·intro j v r' hv hr
  rcases hget j v hv with ⟨h1, h2⟩ | ⟨rfl, rfl⟩
  ·rw [List.getElem?_append_left (by rw [hI.len]; exact h2)] at hr
   obtain ⟨sa', sc', e1, e2⟩ := hI.recd j v r' h1 hr
   exact ⟨sa', sc', e1, owns_only e2 ho (fun b hb hc => (hI.rsep j v b h1 (by rw [e1]; exact hb)).2.2.1 hc)⟩
  ·rw [List.getElem?_append_right (by rw [hI.len]; omega), hI.len] at hr
   simp at hr
   subst hr
   exact ⟨sa, sc, rfl, owns_only hown ho (fun b hb hc => by have := (hsep b hb).2.1; omega)⟩
 ·intro j v b hv hbv
  rcases hget j v hv with ⟨h1, h2⟩ | ⟨rfl, rfl⟩
  ·obtain ⟨s1, s2, s3, s4⟩ := hI.rsep j v b h1 hbv
   exact ⟨s1, s2, s3, by omega⟩
  ·obtain ⟨s1, s2, s3⟩ := hsep b hbv
   exact ⟨fun hc => s1 (.inl hc), fun hc => s1 (.inr hc), by omega, by omega⟩
 ·intro j k v v' b hv hv' hb hb'
  rcases hget j v hv with ⟨h1, h2⟩ | ⟨rfl, rfl⟩ <;> rcases hget k v' hv' with ⟨h3, h4⟩ | ⟨rfl, rfl⟩
  ·exact hI.apart j k v v' b h1 h3 hb hb'
  ·have := hlo j v b h1 hb
   have := (hsep b hb').2.1
   omega
  ·have := hlo k v' b h3 hb'
   have := (hsep b hb).2.1
   omega
  ·rfl
end
end Go.Proofs.YtndlmgocldckfaaGreat

namespace Go.Proofs.YtndlmgocldckfaaGreat
open Go.RowKit
set_option linter.unusedVariables false
set_option linter.unusedSimpArgs false
set_option maxRecDepth 100000
set_option maxHeartbeats 4000000
structure QOk (s : KS) : Prop where
 sorted : Sorted s.q
 dist : Distinct s.q
structure Fit (ents : Int) (ks : List (List Ins)) (draws : List Int) (s : KS) : Prop where
 ok : KOk ents ks.length draws s
 q : QOk s
section
variable {ents : Int} {ks : List (List Ins)} {draws : List Int} {s s' : KS} {e : Ev} {q : List Ev} {horizon : Int} {r : Rec} {why : Int}
end
section
variable {ents : Int} {ks : List (List Ins)} {draws : List Int}
end
def RegZ (ents : Int) (s : KS) : Prop := ∀ j : Nat, ents.toNat * 4 ≤ j → s.regs j = 0
end Go.Proofs.YtndlmgocldckfaaGreat
