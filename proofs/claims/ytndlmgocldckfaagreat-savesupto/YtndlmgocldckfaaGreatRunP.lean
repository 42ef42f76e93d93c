import Derived.Test.YtndlmgocldckfaaGreatG26
namespace Go.Proofs.YtndlmgocldckfaaGreat
open Go.RowKit Go.Conc
set_option linter.unusedVariables false
set_option linter.unusedSimpArgs false
set_option maxRecDepth 100000
set_option maxHeartbeats 4000000
theorem mkChan (n : Nat) (hn : n ≤ 1000) (w : World) : (Instr.makeChan 139 (.int .i64 n)).run Tryz.prog w = .ok (.chan (some w.heap.size)) (w.alloc (.chan n #[] false 0 0 false)) := by
 obtain ⟨i, hi, hz, hs, hb⟩ := info_parts Tryz.infoR
 exact run_makeChan (P := Tryz.prog) (w := w) Tryz.underlying139 hi .i64 n (by omega) (by rw [hb]; omega)
theorem owns_base {w : World} {b b' : Nat} {e : TypeId} {size : Nat} {v : Value} {n : Nat} {xs : List Value} (h : w.ownsRow b e size v n xs) (hb : b' ≤ b) : w.ownsRow b' e size v n xs := by
 obtain ⟨h1, h2⟩ := h
 refine ⟨h1, ?_⟩
 rcases h2 with h2 | ⟨g, cap, cur, hv, hg, r⟩
 ·exact .inl h2
 ·exact .inr ⟨g, cap, cur, hv, by omega, r⟩
theorem recs_of : ∀ (vs : List Value) (rs : List Rec), vs.length = rs.length → (∀ (j : Nat) v r, vs[j]? = some v → rs[j]? = some r → ∃ sa sc, v = recV r.e (.slice sa r.told.length sc)) →
  ∃ L : List RecC, vs = L.map RecC.v ∧ L.length = rs.length ∧ ∀ (j : Nat) x r, L[j]? = some x → rs[j]? = some r → x.e = r.e ∧ x.n = r.told.length
 | [], rs, hl, _ => ⟨[], rfl, hl, by simp⟩
 | v :: vs, [], hl, _ => by simp at hl
 | v :: vs, r :: rs, hl, h => by
  obtain ⟨L, h1, h2, h3⟩ := recs_of vs rs (by simpa using hl) (fun j v' r' hv hr => h (j + 1) v' r' (by simpa using hv) (by simpa using hr))
  obtain ⟨sa, sc, hv⟩ := h 0 v r rfl rfl
  refine ⟨⟨r.e, sa, r.told.length, sc⟩ :: L, by rw [hv, h1]; rfl, by simp [h2], ?_⟩
  intro j x r' hx hr
  cases j with
  | zero => simp at hx hr; subst hx; subst hr; exact ⟨rfl, rfl⟩
  | succ j => exact h3 j x r' (by simpa using hx) (by simpa using hr)
theorem runF_length (ks : List (List Ins)) (draws : List Int) (horizon : Int) : ∀ (n : Nat) (s : KS), (runF ks draws horizon n s).2.1.length ≤ n
 | 0, s => by simp [runF]
 | n + 1, s => by
  unfold runF
  split
  ·rename_i s' r y hs
   have := runF_length ks draws horizon n s'
   simp; omega
  ·simp
structure RunOut (w w' : World) (kb qb mb : Nat) (ov2 : Value) (lv : Value) (L : List RecC) (rs : List Rec) : Prop where
 len : L.length = rs.length
 row : w'.ownsRow w.heap.size 46 5 lv L.length (recCells L)
 rec_ : ∀ (j : Nat) x r, L[j]? = some x → rs[j]? = some r → x.e = r.e ∧ x.n = r.told.length ∧ w'.ownsRow w.heap.size 3 1 (.slice x.sa x.n x.sc) r.told.length (ints r.told)
 lsep : ∀ b, some b = lv.ownBlock → ¬ KSet kb qb mb ov2 b
 tsep : ∀ (j : Nat) x b, L[j]? = some x → some b = (Value.slice x.sa x.n x.sc).ownBlock → ¬ KSet kb qb mb ov2 b ∧ some b ≠ lv.ownBlock
 apart : ∀ (j k : Nat) x y b, L[j]? = some x → L[k]? = some y → some b = (Value.slice x.sa x.n x.sc).ownBlock → some b = (Value.slice y.sa y.n y.sc).ownBlock → j = k
theorem run_arg (kb : Nat) (steps horizon : Int) (w : World) (hs : ¬ (0 ≤ steps ∧ steps ≤ 1000)) :
  Calls Tryz.prog 46 #[.pointer (some ⟨kb, 0, none⟩), .int .i64 steps, .int .i64 horizon] w fun e w' => e = .returned (.tuple #[.slice none 0 0, .int .i64 0, .int .i64 1]) ∧ w' = w := by
 by_cases h0 : steps < 0
 ·go_enter Tryz.func46, Tryz.ntmps46
  go_wp2
  go_ret3
  exact ⟨rfl, rfl⟩
 ·have h1 : 1000 < steps := by omega
  go_enter Tryz.func46, Tryz.ntmps46
  go_wp2
  go_ret3
  exact ⟨rfl, rfl⟩
theorem run_ok {R : Nat → Prop} {base : Nat} {kb qb mb : Nat} {ov : Value} {ents : Int} {ks : List (List Ins)} {draws : List Int} {s : KS} (n : Nat) (horizon : Int) (w : World) (h : KerP R base w kb qb mb ov ents ks draws s) (hok : KOk ents ks.length draws s) (hents : ents ≤ 8) (hk8 : ks.length ≤ 8) (hn : n ≤ 1000) (hbase : base ≤ w.heap.size)
  (hcode : ∀ l ∈ ks, l.length ≤ 16 ∧ ∀ x ∈ l, mayF ents ks.length x.op x.a x.b x.c = true) (hd : ∀ d ∈ draws, 0 ≤ d ∧ d ≤ 1000000000) (s2 : KS) (rs : List Rec) (why : Int) (hF : runF ks draws horizon n s = (s2, rs, why)) :
  Calls Tryz.prog 46 #[.pointer (some ⟨kb, 0, none⟩), .int .i64 n, .int .i64 horizon] w fun e w' => ∃ lv ov2 L, e = .returned (.tuple #[lv, .int .i64 why, .int .i64 0]) ∧ Only (KSet kb qb mb ov) w w' ∧ Moved w ov ov2 ∧ KerP R base w' kb qb mb ov2 ents ks draws s2 ∧ KOk ents ks.length draws s2 ∧ RunOut w w' kb qb mb ov2 lv L rs := by
 have hmk := mkChan n hn w
 have hbA : Below w.heap.size w (w.alloc (.chan n #[] false 0 0 false)) := (Below.refl _ _).alloc (Nat.le_refl _) _
 have hcn : ¬ KSet kb qb mb ov w.heap.size := fun hc => by have := h.lt _ hc; omega
 have HM := hide (ms_any (n := n) (c := w.heap.size) horizon (w.alloc (.chan n #[] false 0 0 false)) (h.below hbA) hok hents hk8 hn (by simp; omega) hcode hd (heap_new _ _) hcn (fun hc => by have := h.rlt _ hc; omega))
 rw [hF] at HM
 simp only at HM
 have n1 : (n : Int) ≤ 1000 := by omega
 have hlenF := runF_length ks draws horizon n s
 rw [hF] at hlenF
 simp only at hlenF
 have H := hide h
 clear h hF hcode hd
 go_enter Tryz.func46, Tryz.ntmps46
 have hrl : rs.length ≤ 1000 := by omega
 have HE : Hid (∀ w1 sqb smb ov2 sov2 buf w2, MsInv R base (w.alloc (.chan n #[] false 0 0 false)) w2 kb qb mb w.heap.size sqb smb ov ents ks draws n rs.length s2 ov2 sov2 buf rs → w1 = w2.setChan w.heap.size n buf true rs.length 0 false →
   Calls Tryz.prog 90 #[.chan (some w.heap.size)] w1 fun e w' => ∃ lsa lsc L, e = .returned (.slice lsa rs.length lsc) ∧ Only (KSet kb qb mb ov) w w' ∧ Moved w ov ov2 ∧ KerP R base w' kb qb mb ov2 ents ks draws s2 ∧ KOk ents ks.length draws s2 ∧ RunOut w w' kb qb mb ov2 (.slice lsa rs.length lsc) L rs) := by
  intro w1 sqb smb ov2 sov2 buf w2 hI hw1
  obtain ⟨L, hL1, hL2, hL3⟩ := recs_of buf.toList rs (by rw [Array.length_toList, hI.size]) (fun j v r hv hr => by
   obtain ⟨sa, sc, e1, _⟩ := hI.recd j v r (by simpa using hv) hr
   exact ⟨sa, sc, e1⟩)
  have hbL : buf = (L.map RecC.v).toArray := by rw [← hL1]
  have hzA := hI.only.size
  simp only [World.size_alloc] at hzA
  have ho1 : Only (· = w.heap.size) w2 w1 := by rw [hw1]; exact ⟨rfl, rfl, rfl, by simp [World.setChan], fun k hk hn => by simp only [World.setChan]; rw [Array.getElem?_setIfInBounds_ne (fun e => hn e.symm)]⟩
  have hch : w1.heap[w.heap.size]? = some (.chan n (L.map RecC.v).toArray true rs.length 0 false) := by rw [hw1, heap_setChan _ _ _ _ _ _ _ _ (by omega), hbL]
  have hz1 : w1.heap.size = w2.heap.size := by rw [hw1]; exact size_setChan _ _ _ _ _ _ _ _
  refine (listed_any w1 w.heap.size n rs.length L (by omega) hch).mono ?_
  rintro e w' ⟨lv, rfl, hown, ho⟩
  rw [hL2] at hown
  obtain ⟨lsa, lsc, rfl⟩ := owns_formA hown
  have hz' := ho.size
  have hoc : Only (· = w.heap.size) w2 w' := ho1.trans ho
  have hget : ∀ (j : Nat) x, L[j]? = some x → buf[j]? = some x.v := by
   intro j x hx
   rw [← Array.getElem?_toList, hL1]; simp [hx]
  have hrec : ∀ (j : Nat) x r, L[j]? = some x → rs[j]? = some r → w'.ownsRow w.heap.size 3 1 (.slice x.sa x.n x.sc) r.told.length (ints r.told) := by
   intro j x r hx hr
   obtain ⟨sa, sc, e1, e2⟩ := hI.recd j x.v r (hget j x hx) hr
   simp only [RecC.v, recV, Value.agg.injEq, Array.mk.injEq, List.cons.injEq, Value.slice.injEq] at e1
   obtain ⟨_, _, _, _, ⟨rfl, h5, rfl⟩, _⟩ := e1
   rw [h5]
   exact owns_base (owns_only e2 hoc (fun b hb hc => (hI.rsep j x.v b (hget j x hx) (by rw [← h5] at hb; exact hb)).2.2.1 hc)) (by simp)
  have hlv : ∀ b, some b = (Value.slice lsa rs.length lsc).ownBlock → w2.heap.size ≤ b := fun b hb => by have := (hown.lt b hb.symm).1; omega
  refine ⟨lsa, lsc, L, rfl, ?_, ?_, hI.ker.only hoc (fun b hb hc => by subst hc; exact hI.ck hb) (fun b hb hc => by subst hc; exact hI.cr hb), hI.ok, ⟨hL2, ?_, ?_, ?_, ?_, ?_⟩⟩
  ·refine ⟨hoc.os.trans hI.only.os, hoc.tape.trans hI.only.tape, hoc.output.trans hI.only.output, by omega, ?_⟩
   intro k hk hn
   rw [hoc.block k (by omega) (by omega), hI.only.block k (by simp; omega) (fun hc => by rcases hc with hc | hc; exact hn hc; omega), Below.heap_alloc _ _ _ hk]
  ·rcases hI.moved with e | ⟨g, e, hg⟩
   ·exact .inl e
   ·exact .inr ⟨g, e, by simp at hg; omega⟩
  ·rw [hL2]; exact owns_base hown (by omega)
  ·intro j x r hx hr
   exact ⟨(hL3 j x r hx hr).1, (hL3 j x r hx hr).2, hrec j x r hx hr⟩
  ·intro b hb hc
   have := hI.ker.lt b hc
   have := hlv b hb
   omega
  ·intro j x b hx hb
   obtain ⟨s1, s2', s3, s4⟩ := hI.rsep j x.v b (hget j x hx) hb
   refine ⟨s1, fun hc => ?_⟩
   have := hlv b hc
   omega
  ·intro j k x y b hx hy hb hb'
   exact hI.apart j k x.v y.v b (hget j x hx) (hget k y hy) hb hb'
 go_wp2_with (first
  | (go_at_call 89; refine HM.out.mono ?_; rintro e w1 ⟨rfl, sqb, smb, ov2, sov2, buf, w2, hI, hw1⟩; (have HC := hide (HE.out w1 sqb smb ov2 sov2 buf w2 hI hw1)); clear hI hw1)
  | (go_at_call 90; refine HC.out.mono ?_; rintro e w3 ⟨lsa, lsc, L, rfl, r1, r2, r3, r4, r5⟩))
 go_ret3
 exact ⟨_, ov2, L, rfl, r1, r2, r3, r4, r5⟩
end Go.Proofs.YtndlmgocldckfaaGreat
