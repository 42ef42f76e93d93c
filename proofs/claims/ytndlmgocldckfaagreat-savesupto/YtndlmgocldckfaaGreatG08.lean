import Derived.Test.YtndlmgocldckfaaGreatG07
import Derived.Deep.RegionLaw
import Derived.Deep.RegionHeld3
import Derived.Test.YtndlmgocldckfaaGreatG01
namespace Go.Proofs.YtndlmgocldckfaaGreat
open Go.RowKit
set_option linter.unusedVariables false
set_option linter.unusedSimpArgs false
set_option maxRecDepth 100000
set_option maxHeartbeats 4000000
theorem step_append_src {P : Program} {w : World} {ops : Array Oper} {o : Oper} {a : Act} {K : Act → World → Prop} {Q : Exit → Act → World → Prop} {E : Prop} (hgd : o.guard = none) (s x : Operand) (t : TypeId)
  (ho : o.op = .call { callee := .builtin .append, args := #[s, x], argTypes := #[t, t] })
  (base : Nat) (e : TypeId) (z : Value) (size bytes : Nat) (ht : P.underlying t = some (.slice e)) (hinfo : (P.info? e).map (fun i => (i.zero, i.size, i.bytes)) = some (some z, size, bytes))
  (hzs : z.cells.size = size) (hsz : 0 < size)
  (v : Value) (n : Nat) (xs : List Value) (hs : a.eval s = v) (hown : w.ownsRow base e size v n xs)
  (sv : Value) (m : Nat) (news : List Value) (hx : a.eval x = sv) (hsrc : SrcAt w sv m news) (hl : news.length = m * size) (h1 : ∀ u ∈ news, u.oneCell' = true)
  (hbytes : (n + m) * bytes ≤ 140737488355328) (h63 : n + m ≤ 9223372036854775807) (hbase : base ≤ w.heap.size)
  (h : ∀ v' w', Hid (w'.ownsRow base e size v' (n + m) (xs ++ news)) → Hid (w.grownBy w' v.ownBlock) → Hid (v'.ownBlock = v.ownBlock ∨ v'.ownBlock = some w.heap.size) → K (a.put o.dst v') w') :
  if Region.wanted o (yielded ops a.tmps) = true then Oper.wp P o a w K Q else E := by
 have hw : Region.wanted o (yielded ops a.tmps) = true := by simp [Region.wanted, hgd]
 rw [if_pos hw]
 obtain ⟨i, hi, hz, hsz', hby⟩ := info_parts hinfo
 have hsrc' : (sv = .slice none 0 0 ∧ m = 0 ∧ news = []) ∨ ∃ ad c, sv = .slice (some ad) m c ∧ ∀ j u, news[j]? = some u → w.cell? (Addr.add ad j) = some u := by
  rcases hsrc with h | ⟨b, off, c, h, hrow⟩ | ⟨ad, c, h, h0⟩
  ·exact .inl h
  ·exact .inr ⟨⟨b, off, none⟩, c, h, fun j u hu => by rw [Addr.add_lit]; exact hrow j u hu⟩
  ·exact .inr ⟨ad, c, h, fun j u hu => by rw [h0] at hu; simp at hu⟩
 rcases hsrc' with ⟨rfl, rfl, rfl⟩ | ⟨ad, c, rfl, hnews⟩
 ·subst hsz'
  have hr := run_append_owned_none (P := P) w base t o.type e i i.size ht hi v n xs hown
  unfold Oper.wp
  simp [execOp, ho, resolve, invoke, builtin, hs, hx, hr, Result.andThen]
  exact h v w (by show World.ownsRow _ _ _ _ _ _ _; simpa using hown) ⟨rfl, rfl, rfl, Nat.le_refl _, fun _ _ _ => rfl⟩ (.inl rfl)
 ·subst hsz'
  subst hby
  obtain ⟨v', w', hr, h2, h3, h4⟩ := run_append_own (P := P) w base t o.type e i z i.size i.bytes ht hi hz rfl rfl hzs hsz v n xs hown ad m c news hl hnews h1 (by simp only [maxLen]; omega) hbytes hbase
  have h5 := run_append_where base t o.type e i z ht hi hz v n xs hown ad m c news hl hnews h1 h63 hbytes v' w' hr
  unfold Oper.wp
  simp [execOp, ho, resolve, invoke, builtin, hs, hx, hr, Result.andThen]
  exact h v' w' h2 h3 h5
theorem OrdV.src {base : Nat} {w : World} {v : Value} {n : Nat} {f : Nat → Mom} (h : OrdV base w v n f) : SrcAt w v n (momCells f n) := by
 rcases h with ⟨rfl, rfl⟩ | ⟨b, cap, rfl, h0, h1, h2, cur, h3, h4, h5⟩
 ·exact .inl ⟨rfl, rfl, rfl⟩
 ·refine .inr (.inl ⟨b, 0, cap, rfl, ?_⟩)
  intro j u hu
  have hj : j < n * 2 := by have := (List.getElem?_eq_some_iff.1 hu).1; rwa [momCells_length] at this
  rw [← h5.cells (by rw [h4]; exact Nat.mul_le_mul_right _ h1), List.getElem?_take, if_pos hj] at hu
  simpa [World.cell?, h3] using hu
theorem OrdV.zero {base : Nat} {w : World} {sa : Option Addr} {sc n : Nat} {f : Nat → Mom} (h : OrdV base w (.slice sa n sc) n f) : w.ownsRow base 186 2 (.slice sa 0 sc) 0 [] := by
 rcases h with ⟨h, rfl⟩ | ⟨b, cap, h, h0, h1, h2, cur, h3, h4, h5⟩
 ·simp only [Value.slice.injEq] at h
  obtain ⟨rfl, _, rfl⟩ := h
  exact ⟨rfl, .inl ⟨rfl, rfl⟩⟩
 ·simp only [Value.slice.injEq] at h
  obtain ⟨rfl, _, rfl⟩ := h
  exact ⟨rfl, .inr ⟨b, sc, cur, rfl, h0, h3, by omega, h2, h4, by simp⟩⟩
theorem run_clear {W : World} {mb : Nat} {es : Array MapEntry} {clock : Nat} (hb : W.heap[mb]? = some (.map es clock)) (ty : TypeId) :
  (Builtin.clear_ #[152] ty #[.map (some mb)]).run Tryz.prog W = .ok (.tuple #[]) (withMap W mb #[] clock) := by
 simp [Builtin.clear_, run_underlying Tryz.underlying152, MapKept.run_getObj_map hb, MapKept.run_setObj_map _ hb, Result.andThen, withMap]
theorem become_any {base base' : Nat} (qb mb qb' mb' : Nat) (ov ov' : Value) (q q' : List Ev) (w : World) (h : QueP base w qb mb ov q) (h' : QueP base' w qb' mb' ov' q') (hbase : base ≤ w.heap.size) (hap : ∀ b, QSet qb mb ov b → ¬ QSet qb' mb' ov' b) :
  Calls Tryz.prog 127 #[.pointer (some ⟨qb, 0, none⟩), .pointer (some ⟨qb', 0, none⟩)] w
   fun e w' => ∃ ov2, e = .returned (.tuple #[]) ∧ Only (QSet qb mb ov) w w' ∧ QueP base w' qb mb ov2 q' ∧ Moved w ov ov2 := by
 obtain ⟨es, clock, hm, hq⟩ := h.map
 obtain ⟨es', clock', hm', hq'⟩ := h'.map
 obtain ⟨f, ho, hh, hf⟩ := h.ord
 obtain ⟨f', ho', hh', hf'⟩ := h'.ord
 have h0 := h.c0
 have h1 := h.c1
 have ht := h.thaw
 have h0' := h'.c0
 have h1' := h'.c1
 have hqb := lt_of_cell h0
 have hqb' := lt_of_cell h0'
 have hmb : mb < w.heap.size := (Array.getElem?_eq_some_iff.1 hm).1
 have hmb' : mb' < w.heap.size := (Array.getElem?_eq_some_iff.1 hm').1
 have hmm : mb ≠ mb' := fun e => hap mb (.inr (.inl rfl)) (by rw [e]; exact .inr (.inl rfl))
 have hqm := h.qm
 have hq'm : qb' ≠ mb := fun e => hap mb (.inr (.inl rfl)) (by rw [← e]; exact .inl rfl)
 have hqo := h.qo
 have hmo := h.mo
 have hmo' : some mb ≠ ov'.ownBlock := fun e => hap mb (.inr (.inl rfl)) (.inr (.inr e))
 obtain ⟨sa, sc, rfl⟩ := ho.form
 obtain ⟨sa', sc', rfl⟩ := ho'.form
 have hrun := run_clear hm 3
 have Hl' := hide h'.len
 have Hs' := hide h'.sorted
 have Hd' := hide h'.distinct
 have Hq' := hide hq'
 have Hh' := hide hh'
 have Hf' := hide hf'
 have Hm' := hide hm'
 have Hqo := hide hqo
 have Hmo := hide hmo
 have Hmo' := hide hmo'
 have ho1 := only_withMap w mb #[] clock
 have hz1 := withMap_size w mb #[] clock
 have hm1 := withMap_at hmb #[] clock
 have hrun : ∀ ty, (Builtin.clear_ #[152] ty #[.map (some mb)]).run Tryz.prog w = .ok (.tuple #[]) (withMap w mb #[] clock) := fun ty => run_clear hm ty
 generalize withMap w mb #[] clock = w1 at ho1 hz1 hm1 hrun
 have Hm1 := hide hm1
 have Ho1 := hide ho1
 have HO := hide ho
 have HO' := hide ho'
 clear hm hq hm' hq' ho hh hf ho' hh' hf' h h' hm1 hqo hmo hmo' ho1
 have g0 := Ho1.out.at h0 hqm
 have g0' := Ho1.out.at h0' hq'm
 go_enter Tryz.func127, Tryz.ntmps127
 have hms1 : w1.heap[mb']? = some (.map es' clock') := (Ho1.out.block mb' hmb' (Ne.symm hmm)).trans Hm'.out
 have Hms1 := hide hms1
 clear hms1
 go_wp2
 go_region_held3 (fun W' => W'.cell? ⟨qb, 0, none⟩ = some (.map (some mb)) ∧ W'.cell? ⟨qb', 0, none⟩ = some (.map (some mb')))
  (first | go_keep | exact ⟨ho2.at (w := w1.drew) g0 hqm, ho2.at (w := w1.drew) g0' hq'm⟩)
  (first | (go_at_call 133; refine (mapsCopy_any mb mb' es' clock' clock q' w1.drew hmm Hm1.out Hms1.out Hq'.out Hd'.out).mono ?_; rintro e w2 ⟨rfl, ho2, es2, c2, hm2, hq2⟩))
 all_goals
  have ho3 : Only (· = mb) w w2 := Ho1.out.trans ⟨ho2.os, ho2.tape, ho2.output, ho2.size, ho2.block⟩
  have hz3 := ho3.size
  have k0 := ho3.at h0 hqm
  have k1 := ho3.at h1 hqm
  have k1' := ho3.at h1' hq'm
  have kt : w2.frozen? ⟨qb, 1, none⟩ = false := by
   rw [World.frozen?_of_block (w := w) (a := ⟨qb, 1, none⟩) (ho3.block qb hqb hqm)]; exact ht
  have HZ := hide ((HO.out.only ho3 (fun b hb hc => by subst hc; exact Hmo.out hb)).zero)
  have HSr := hide (((HO'.out.only ho3 (fun b hb hc => by subst hc; exact Hmo'.out hb))).src)
  have Ho3 := hide ho3
  have Hm2 := hide hm2
  have Hq2 := hide hq2
  clear ho2 ho3 hm2 hq2 g0 g0' h0 h0' h1 h1' ht hrun Ho1
  have hl' := Hl'.out
  have own0 : (Value.slice sa 0 sc).ownBlock = (Value.slice sa q.length sc).ownBlock := by cases sa <;> rfl
  have Hq0 : Hid (¬ some qb = (Value.slice sa 0 sc).ownBlock) := by show ¬ _; rw [own0]; exact Hqo.out
  have Hq0' : Hid (¬ some qb' = (Value.slice sa 0 sc).ownBlock) := by show ¬ _; rw [own0]; exact fun e => hap qb' (.inr (.inr e)) (.inl rfl)
  have Hm0 : Hid (¬ some mb = (Value.slice sa 0 sc).ownBlock) := by show ¬ _; rw [own0]; exact Hmo.out
  have Own0 := hide own0
  clear own0
  go_wp2
  go_region_law (first | (refine step_append_src rfl (.tmp 22) (.tmp 26) 154 rfl base 186 (.agg #[.int .i64 0, .int .i64 0]) 2 16 Tryz.underlying154 Tryz.infoM rfl (by omega) (.slice sa 0 sc) 0 [] rfl (show World.ownsRow w2.drew _ _ _ _ _ _ from HZ.out) (.slice sa' q'.length sc') q'.length (momCells f' q'.length) rfl (show SrcAt w2.drew _ _ _ from HSr.out) (momCells_length _ _) (momCells_one _ _) (by omega) (by omega) (by simp; omega) ?_; intro v4 w4 hown4 hgr4 hwh4; (have ho4 : Only (fun b => some b = (Value.slice sa 0 sc).ownBlock) w2 w4 := ⟨hgr4.out.os, hgr4.out.tape, hgr4.out.output, hgr4.out.size, hgr4.out.block⟩); (have kk1 := ho4.at k1 Hq0.out); (have kk1' := ho4.at k1' Hq0'.out); (have kk0 := ho4.at k0 Hq0.out); (have kkt : w4.frozen? ⟨qb, 1, none⟩ = false := (World.frozen?_of_block (w := w2) (a := ⟨qb, 1, none⟩) (ho4.block qb (by omega) Hq0.out)).trans kt); (have hO4 : OrdV base w4 v4 q'.length f' := OrdV.of (by simpa using hown4.out)); obtain ⟨sa4, sc4, rfl⟩ := hO4.form))
  all_goals
   go_end0
   have hz4 := ho4.size
   have hmv : Moved w (.slice sa q.length sc) (.slice sa4 q'.length sc4) := by
    rcases hwh4.out with e | e
    ·exact .inl (e.trans Own0.out)
    ·exact .inr ⟨_, e, by simp; omega⟩
   have hnq : some qb ≠ (Value.slice sa4 q'.length sc4).ownBlock := by
    rcases hmv with e | ⟨g, e, hg⟩
    ·rw [e]; exact Hqo.out
    ·rw [e]; simp; omega
   have hnm : some mb ≠ (Value.slice sa4 q'.length sc4).ownBlock := by
    rcases hmv with e | ⟨g, e, hg⟩
    ·rw [e]; exact Hmo.out
    ·rw [e]; simp; omega
   refine ⟨_, rfl, ?_, ⟨?_, ?_, ?_, ⟨es2, c2, ?_, Hq2.out⟩, ⟨f', ?_, Hh'.out, Hf'.out⟩, hqm, hnq, hnm, Hs'.out, Hd'.out, Hl'.out⟩, hmv⟩
   ·exact ((Ho3.out.mono (fun k _ hk => .inr (.inl hk))).trans (ho4.mono (fun k _ hk => .inr (.inr (hk.trans Own0.out))))).setCell (.inl rfl) _
   ·rw [World.cell?_setCell_other _ _ _ _ (by simp)]; exact kk0
   ·exact World.cell?_setCell_same _ _ _ kk1
   ·rw [World.frozen?_setCell]; exact kkt
   ·rw [Below.heap_setCell _ _ _ _ (by exact Ne.symm hqm), ho4.block mb (by omega) Hm0.out]; exact Hm2.out
   ·exact hO4.only (U := (· = qb)) (Only.setCell (S := (· = qb)) (Only.refl _ _) (p := ⟨qb, 1, none⟩) rfl _) (fun b hb hc => by subst hc; exact hnq hb)
theorem within_any (n lo hi : Int) (w : World) :
  Calls Tryz.prog 97 #[.int .i64 n, .int .i64 lo, .int .i64 hi] w fun e w' => e = .returned (.bool (inB n lo hi)) ∧ w' = w := by
 by_cases h1 : lo ≤ n <;> by_cases h2 : n ≤ hi
 all_goals
  go_enter Tryz.func97, Tryz.ntmps97
  go_wp2
  go_ret
  exact ⟨by simp [inB, *], rfl⟩
theorem isValue_any (n : Int) (w : World) :
  Calls Tryz.prog 131 #[.int .i64 n] w fun e w' => e = .returned (.bool (inB n (-1000000000) 1000000000)) ∧ w' = w := by
 go_enter Tryz.func131, Tryz.ntmps131
 go_wp2_with (go_at_call 97; refine (within_any _ _ _ _).mono ?_; rintro e w' ⟨rfl, rfl⟩)
 go_ret
 exact ⟨rfl, rfl⟩
theorem isRegister_any (n : Int) (w : World) :
  Calls Tryz.prog 94 #[.int .i64 n] w fun e w' => e = .returned (.bool (inB n 0 3)) ∧ w' = w := by
 go_enter Tryz.func94, Tryz.ntmps94
 go_wp2_with (go_at_call 97; refine (within_any _ _ _ _).mono ?_; rintro e w' ⟨rfl, rfl⟩)
 go_ret
 exact ⟨rfl, rfl⟩
theorem notDraw_any (n : Int) (w : World) :
  Calls Tryz.prog 101 #[.int .i64 n] w fun e w' => e = .returned (.bool (!inB n 0 1000000000)) ∧ w' = w := by
 go_enter Tryz.func101, Tryz.ntmps101
 go_wp2_with (go_at_call 97; refine (within_any _ _ _ _).mono ?_; rintro e w' ⟨rfl, rfl⟩)
 go_ret
 exact ⟨rfl, rfl⟩
theorem hasKind_any (ents : Int) (sa : Option Addr) (nk cap : Nat) (n : Int) (w : World) (hk : nk ≤ 8) :
  Calls Tryz.prog 83 #[.agg #[.int .i64 ents, .slice sa nk cap], .int .i64 n] w fun e w' => e = .returned (.bool (inB n 0 (nk - 1))) ∧ Below w.heap.size w w' := by
 go_enter Tryz.func83, Tryz.ntmps83
 go_wp2_with (go_at_call 97; refine (within_any _ _ _ _).mono ?_; rintro e w' ⟨rfl, rfl⟩)
 go_ret
 exact ⟨rfl, (Below.refl _ _).alloc (Nat.le_refl _) _⟩
theorem hasEntity_any (ents : Int) (sa : Option Addr) (nk cap : Nat) (n : Int) (w : World) (he : 1 ≤ ents) (he' : ents ≤ 8) :
  Calls Tryz.prog 84 #[.agg #[.int .i64 ents, .slice sa nk cap], .int .i64 n] w fun e w' => e = .returned (.bool (inB n 0 (ents - 1))) ∧ Below w.heap.size w w' := by
 go_enter Tryz.func84, Tryz.ntmps84
 go_wp2_with (go_at_call 97; refine (within_any _ _ _ _).mono ?_; rintro e w' ⟨rfl, rfl⟩)
 go_ret
 exact ⟨rfl, (Below.refl _ _).alloc (Nat.le_refl _) _⟩
theorem mayBe_other (ents : Int) (sa : Option Addr) (nk cap : Nat) (op a b c : Int) (w : World) (h6 : op ≠ 6) :
  Calls Tryz.prog 119 #[.agg #[.int .i64 ents, .slice sa nk cap], .agg #[.int .i64 op, .int .i64 a, .int .i64 b, .int .i64 c]] w
   fun e w' => e = .returned (.bool (mayF ents nk op a b c)) ∧ Below w.heap.size w w' := by
 have h6' : (op == 6) = false := by simpa using h6
 go_enter Tryz.func119, Tryz.ntmps119
 go_wp2_with (first | (go_at_call 94; refine (isRegister_any _ _).mono ?_; rintro e w' ⟨rfl, rfl⟩) | (go_at_call 131; refine (isValue_any _ _).mono ?_; rintro e w' ⟨rfl, rfl⟩) | (go_at_call 97; refine (within_any _ _ _ _).mono ?_; rintro e w' ⟨rfl, rfl⟩))
 all_goals
  go_ret
  refine ⟨?_, ((Below.refl _ _).alloc (Nat.le_refl _) _).alloc (by simp) _⟩
  simp_all [mayF] <;> exact Bool.eq_iff_iff.2 (by simp)
theorem mayBe_six (ents : Int) (sa : Option Addr) (nk cap : Nat) (a b c : Int) (w : World) (he : 1 ≤ ents) (he' : ents ≤ 8) (hk : nk ≤ 8) :
  Calls Tryz.prog 119 #[.agg #[.int .i64 ents, .slice sa nk cap], .agg #[.int .i64 6, .int .i64 a, .int .i64 b, .int .i64 c]] w
   fun e w' => e = .returned (.bool (mayF ents nk 6 a b c)) ∧ Below w.heap.size w w' := by
 go_enter Tryz.func119, Tryz.ntmps119
 go_wp2_with (first | (go_at_call 83; refine (hasKind_any _ _ _ _ _ _ hk).mono ?_; rintro e w' ⟨rfl, hb⟩; obtain ⟨hc, hf⟩ := bcell hb; have hz : w.heap.size + 1 < w'.heap.size := (by have := hb.size; simp at this; omega)) | (go_at_call 84; refine (hasEntity_any _ _ _ _ _ _ he he').mono ?_; rintro e w' ⟨rfl, hb2⟩; obtain ⟨hc2, hf2⟩ := bcell hb2) | (go_at_call 94; refine (isRegister_any _ _).mono ?_; rintro e w' ⟨rfl, rfl⟩))
 all_goals
  go_ret
  refine ⟨by simp_all [mayF], ?_⟩
  clear hc hf
  first
   | exact (((Below.refl _ _).alloc (Nat.le_refl _) _).alloc (by simp) _).trans ((hb.mono (by simp; omega)).trans (hb2.mono (by have := hb.size; simp at this ⊢; omega)))
   | exact (((Below.refl _ _).alloc (Nat.le_refl _) _).alloc (by simp) _).trans (hb.mono (by simp; omega))
theorem mayBe_any (ents : Int) (sa : Option Addr) (nk cap : Nat) (op a b c : Int) (w : World) (he : 1 ≤ ents) (he' : ents ≤ 8) (hk : nk ≤ 8) :
  Calls Tryz.prog 119 #[.agg #[.int .i64 ents, .slice sa nk cap], .agg #[.int .i64 op, .int .i64 a, .int .i64 b, .int .i64 c]] w
   fun e w' => e = .returned (.bool (mayF ents nk op a b c)) ∧ Below w.heap.size w w' := by
 by_cases h6 : op = 6
 ·subst h6; exact mayBe_six ents sa nk cap a b c w he he' hk
 ·exact mayBe_other ents sa nk cap op a b c w h6
theorem checkCode_some (ents : Int) (sa : Option Addr) (nk cap : Nat) (b off cap' : Nat) (l : List Ins) (w : World) (he : 1 ≤ ents) (he' : ents ≤ 8) (hk : nk ≤ 8)
  (hl : l.length ≤ 16) (hbw : b < w.heap.size) (hc : CodeAt w b off l) :
  Calls Tryz.prog 98 #[.agg #[.int .i64 ents, .slice sa nk cap], .slice (some ⟨b, off, none⟩) l.length cap'] w
   fun e w' => e = .returned (.tuple #[.int .i64 ((codeF ents nk l).getD 0 : Nat), .bool (codeF ents nk l).isNone]) ∧ Below w.heap.size w w' := by
 have h16 : decide (16 < (l.length : Int)) = false := by simp; omega
 have hF : Hid (codeF ents nk l = firstBad ents nk l 0) := by show _ = _; rw [codeF, if_neg (by omega)]
 go_enter Tryz.func98, Tryz.ntmps98
 go_wp2
 go_loopw [13, 7, 6] (fun i p k wr => ∃ n : Nat, n ≤ l.length ∧ i = .int .i64 n ∧ Hid (firstBad ents nk (l.drop n) n = firstBad ents nk l 0) ∧ Below w.heap.size w wr ∧ wr.cell? ⟨w.heap.size, 0, none⟩ = some (.int .i64 ents) ∧ wr.cell? ⟨w.heap.size, 1, none⟩ = some (.slice sa nk cap) ∧ w.heap.size < wr.heap.size) (fun i _ _ _ => l.length - (intOf i).toNat)
 case atStart => exact ⟨0, Nat.zero_le _, rfl, rfl, (Below.refl _ _).alloc (Nat.le_refl _) _, by simp [go_sem], by simp [go_sem], by simp⟩
 case round =>
  obtain ⟨n, hn, rfl, hfb, hbel, hc0, hc1, hsz⟩ := hrel
  by_cases hlt : n < l.length
  ·obtain ⟨hx0, hx1, hx2, hx3⟩ := (hc.below hbel hbw) n l[n] (by simp)
   go_wp2_with fail
   refine (mayBe_any _ _ _ _ _ _ _ _ _ he he' hk).mono ?_
   rintro e w1 ⟨rfl, hb1⟩
   have hb2 : Below wr.heap.size wr w1 := ((Below.refl _ _).alloc (Nat.le_refl _) _).trans (hb1.mono (by simp))
   have hd := firstBad_drop (ents := ents) (nk := nk) hlt
   rcases hm : mayF ents nk l[n].op l[n].a l[n].b l[n].c with _ | _
   ·rw [hm] at hd
    have hd' : Hid (codeF ents nk l = some n) := by show _ = _; rw [hF.out, ← hfb.out, hd]; rfl
    clear hd
    go_wp2
    go_ret2
    refine ⟨by rw [hd'.out]; rfl, hbel.trans (hb2.mono (by omega))⟩
   ·rw [hm, if_pos rfl] at hd
    have hd' : Hid (firstBad ents nk (l.drop (n + 1)) (n + 1) = firstBad ents nk l 0) := by show _ = _; rw [← hfb.out, hd]
    clear hd
    go_wp2
    go_roundw
    case rel => exact ⟨n + 1, by omega, by go_num, hd', hbel.trans (hb2.mono (by omega)), below_at hb2 hc0 hsz, below_at hb2 hc1 hsz, by have := hb2.size; omega⟩
    case measure => simp [intOf]; omega
  ·have hd' : Hid (codeF ents nk l = none) := by
    show _ = _; rw [hF.out, ← hfb.out, List.drop_of_length_le (by omega)]; rfl
   go_wp2
   go_ret2
   exact ⟨by rw [hd'.out]; rfl, hbel⟩
theorem checkCode_long (ents : Int) (sa : Option Addr) (nk cap : Nat) (a : Option Addr) (n cap' : Nat) (w : World) (hl : 16 < n) :
  Calls Tryz.prog 98 #[.agg #[.int .i64 ents, .slice sa nk cap], .slice a n cap'] w
   fun e w' => e = .returned (.tuple #[.int .i64 0, .bool false]) ∧ Below w.heap.size w w' := by
 have h16 : decide (16 < (n : Int)) = true := by simp; omega
 go_enter Tryz.func98, Tryz.ntmps98
 go_wp2
 go_ret2
 exact ⟨rfl, (Below.refl _ _).alloc (Nat.le_refl _) _⟩
theorem checkCode_nil (ents : Int) (sa : Option Addr) (nk cap : Nat) (va : Option Addr) (vc : Nat) (w : World)  :
  Calls Tryz.prog 98 #[.agg #[.int .i64 ents, .slice sa nk cap], .slice va 0 vc] w
   fun e w' => e = .returned (.tuple #[.int .i64 0, .bool true]) ∧ Below w.heap.size w w' := by
 go_enter Tryz.func98, Tryz.ntmps98
 go_wp2
 go_loopw [13] (fun i wr => i = .int .i64 0 ∧ Below w.heap.size w wr) (fun _ _ => 0)
 case atStart => exact ⟨rfl, (Below.refl _ _).alloc (Nat.le_refl _) _⟩
 case round =>
  obtain ⟨rfl, hbel⟩ := hrel
  go_wp2
  go_ret2
  exact ⟨rfl, hbel⟩
theorem checkCode_any (ents : Int) (sa : Option Addr) (nk cap : Nat) (v : Value) (l : List Ins) (w : World) (he : 1 ≤ ents) (he' : ents ≤ 8) (hk : nk ≤ 8)
  (hv : CodeV w.heap.size w v l) :
  Calls Tryz.prog 98 #[.agg #[.int .i64 ents, .slice sa nk cap], v] w
   fun e w' => e = .returned (.tuple #[.int .i64 ((codeF ents nk l).getD 0 : Nat), .bool (codeF ents nk l).isNone]) ∧ Below w.heap.size w w' := by
 obtain ⟨_, ⟨rfl, rfl⟩ | ⟨b, off, cap', rfl, hb, hc⟩ | ⟨va, vc, rfl, rfl⟩⟩ := hv
 rotate_left
 ·by_cases hl : l.length ≤ 16
  ·exact checkCode_some ents sa nk cap b off cap' l w he he' hk hl hb hc
  ·refine (checkCode_long ents sa nk cap _ l.length cap' w (by omega)).mono ?_
   rintro e w' ⟨rfl, h⟩
   refine ⟨?_, h⟩
   rw [codeF, if_pos (by omega)]; rfl
 ·exact checkCode_nil ents sa nk cap _ _ w
 ·exact checkCode_nil ents sa nk cap _ _ w
theorem mCheck_no (ents : Int) (sa : Option Addr) (nk cap : Nat) (w : World) (hno : (!inB ents 1 8 || !inB nk 1 8) = true) :
  Calls Tryz.prog 56 #[.agg #[.int .i64 ents, .slice sa nk cap]] w
   fun e w' => e = .returned (.tuple #[.int .i64 2, .int .i64 0, .int .i64 0]) ∧ Below w.heap.size w w' := by
 rcases h1 : inB ents 1 8 with _ | _ <;> rcases h2 : inB nk 1 8 with _ | _
 case true.true => simp [h1, h2] at hno
 all_goals
  clear hno
  go_enter Tryz.func56, Tryz.ntmps56
  go_wp2_with (go_at_call 97; refine (within_any _ _ _ _).mono ?_; rintro e w' ⟨rfl, rfl⟩)
  go_ret3
  exact ⟨rfl, (Below.refl _ _).alloc (Nat.le_refl _) _⟩
theorem mCheck_yes (ents : Int) (b off cap : Nat) (ks : List (List Ins)) (w : World) (he : 1 ≤ ents) (he' : ents ≤ 8) (hk : 1 ≤ ks.length) (hk' : ks.length ≤ 8)
  (hbw : b < w.heap.size) (hK : KindsAt w.heap.size w b off ks) :
  Calls Tryz.prog 56 #[.agg #[.int .i64 ents, .slice (some ⟨b, off, none⟩) ks.length cap]] w
   fun e w' => e = .returned (checkV ents ks) ∧ Below w.heap.size w w' := by
 have h1 : inB ents 1 8 = true := by simp [inB]; omega
 have h2 : inB ks.length 1 8 = true := by simp [inB]; omega
 have hF : Hid (kindF ents ks = firstKind ents ks.length ks 0) := by show _ = _; simp [kindF, h1, h2]
 go_enter Tryz.func56, Tryz.ntmps56
 go_wp2_with (go_at_call 97; refine (within_any _ _ _ _).mono ?_; rintro e w' ⟨rfl, rfl⟩)
 go_loopw [23, 5, 6, 7, 8] (fun i _ _ _ _ wr => ∃ n : Nat, n ≤ ks.length ∧ i = .int .i64 n ∧ Hid (firstKind ents ks.length (ks.drop n) n = firstKind ents ks.length ks 0) ∧ Below w.heap.size w wr ∧ wr.cell? ⟨w.heap.size, 0, none⟩ = some (.int .i64 ents) ∧ wr.cell? ⟨w.heap.size, 1, none⟩ = some (.slice (some ⟨b, off, none⟩) ks.length cap) ∧ w.heap.size < wr.heap.size) (fun i _ _ _ _ _ => ks.length - (intOf i).toNat)
 case atStart => exact ⟨0, Nat.zero_le _, rfl, rfl, (Below.refl _ _).alloc (Nat.le_refl _) _, by simp [go_sem], by simp [go_sem], by simp⟩
 case round =>
  obtain ⟨n, hn, rfl, hfb, hbel, hc0, hc1, hsz⟩ := hrel
  by_cases hlt : n < ks.length
  ·obtain ⟨v, hv0, hv⟩ := (hK.below hbel hbw (Nat.le_refl _)) n ks[n] (by simp)
   go_wp2_with fail
   refine (checkCode_any _ _ _ _ _ ks[n] _ he he' hk' (hv.mono (by omega))).mono ?_
   rintro e w1 ⟨rfl, hb1⟩
   have hd := firstKind_drop (ents := ents) (nk := ks.length) hlt
   rcases hm : codeF ents ks.length ks[n] with _ | p
   ·rw [hm] at hd
    have hd' : Hid (firstKind ents ks.length (ks.drop (n + 1)) (n + 1) = firstKind ents ks.length ks 0) := by show _ = _; rw [← hfb.out, hd]
    clear hd
    go_wp2
    go_roundw
    case rel => exact ⟨n + 1, by omega, by go_num, hd', hbel.trans (hb1.mono (by omega)), below_at hb1 hc0 hsz, below_at hb1 hc1 hsz, by have := hb1.size; omega⟩
    case measure => simp [intOf]; omega
   ·rw [hm] at hd
    have hd' : Hid (kindF ents ks = some (n, p)) := by show _ = _; rw [hF.out, ← hfb.out, hd]
    clear hd
    go_wp2
    go_ret3
    refine ⟨by simp [checkV, hd'.out], hbel.trans (hb1.mono (by omega))⟩
  ·have hd' : Hid (kindF ents ks = none) := by
    show _ = _; rw [hF.out, ← hfb.out, List.drop_of_length_le (by omega)]; rfl
   go_wp2
   go_ret3
   exact ⟨by simp [checkV, hd'.out], hbel⟩
theorem mCheck_any (ents : Int) (v : Value) (ks : List (List Ins)) (w : World) (hv : KindsV w.heap.size w v ks) :
  Calls Tryz.prog 56 #[.agg #[.int .i64 ents, v]] w
   fun e w' => e = .returned (checkV ents ks) ∧ Below w.heap.size w w' := by
 rcases hno : (!inB ents 1 8 || !inB ks.length 1 8) with _ | _
 ·simp [inB] at hno
  obtain ⟨_, ⟨rfl, rfl⟩ | ⟨b, off, cap', rfl, hb, hc⟩ | ⟨va, vc, rfl, rfl⟩⟩ := hv
  rotate_left
  ·exact mCheck_yes ents b off cap' ks w (by omega) (by omega) (by omega) (by omega) hb hc
  ·simp at hno
  ·simp at hno
 ·have hV : checkV ents ks = .tuple #[.int .i64 2, .int .i64 0, .int .i64 0] := by simp [checkV, kindF, hno]
  rw [hV]
  obtain ⟨_, ⟨rfl, rfl⟩ | ⟨b, off, cap', rfl, hb, hc⟩ | ⟨va, vc, rfl, rfl⟩⟩ := hv
  ·exact mCheck_no ents none 0 0 w (by simpa using hno)
  ·exact mCheck_no ents _ ks.length cap' w hno
  ·exact mCheck_no ents _ 0 vc w (by simpa using hno)
end Go.Proofs.YtndlmgocldckfaaGreat
