import Derived.Test.YtndlmgocldckfaaQCopy
import Derived.Deep.RegionLaw
import Derived.Deep.RegionHeld3
namespace Go.Proofs.Ytndlmgocldckfaa
open Go.RowKit
set_option linter.unusedVariables false
set_option linter.unusedSimpArgs false

theorem step_append_src {P : Program} {w : World} {ops : Array Oper} {o : Oper} {a : Act} {K : Act → World → Prop} {Q : Exit → Act → World → Prop} {E : Prop} (hgd : o.guard = none) (s x : Operand) (t : TypeId)
    (ho : o.op = .call { callee := .builtin .append, args := #[s, x], argTypes := #[t, t] })
    (base : Nat) (e : TypeId) (z : Value) (size bytes : Nat) (ht : P.underlying t = some (.slice e)) (hinfo : (P.info? e).map (fun i => (i.zero, i.size, i.bytes)) = some (some z, size, bytes))
    (hzs : z.cells.size = size) (hsz : 0 < size)
    (v : Value) (n : Nat) (xs : List Value) (hs : a.eval s = v) (hown : w.ownsRow base e size v n xs)
    (sv : Value) (m : Nat) (news : List Value) (hx : a.eval x = sv) (hsrc : SrcAt w sv m news) (hl : news.length = m * size) (h1 : ∀ u ∈ news, u.oneCell' = true)
    (hbytes : (n + m) * bytes ≤ 140737488355328) (h63 : n + m ≤ 9223372036854775807) (hbase : base ≤ w.heap.size)
    (h : ∀ v' w', Hid (w'.ownsRow base e size v' (n + m) (xs ++ news)) → Hid (w.grownBy w' v.ownBlock) → Hid (v'.ownBlock = v.ownBlock ∨ v'.ownBlock = some w.heap.size) → K (a.put o.dst v') w') :
    if Region.wanted o (yielded ops a.tmps) = true then Oper.wp P o a w K Q else E := by
  have hw : Region.wanted o (yielded ops a.tmps) = true := by simp [Region.wanted, hgd]
  rw [if_pos hw]
  obtain ⟨i, hi, hz, hsz', hby⟩ := info_parts hinfo
  have hsrc' : (sv = .slice none 0 0 ∧ m = 0 ∧ news = []) ∨ ∃ ad c, sv = .slice (some ad) m c ∧ ∀ j u, news[j]? = some u → w.cell? (Addr.add ad j) = some u := by
    rcases hsrc with h | ⟨b, off, c, h, hrow⟩ | ⟨ad, c, h, h0⟩
    · exact .inl h
    · exact .inr ⟨⟨b, off, none⟩, c, h, fun j u hu => by rw [Addr.add_lit]; exact hrow j u hu⟩
    · exact .inr ⟨ad, c, h, fun j u hu => by rw [h0] at hu; simp at hu⟩
  rcases hsrc' with ⟨rfl, rfl, rfl⟩ | ⟨ad, c, rfl, hnews⟩
  · subst hsz'
    have hr := run_append_owned_none (P := P) w base t o.type e i i.size ht hi v n xs hown
    unfold Oper.wp
    simp [execOp, ho, resolve, invoke, builtin, hs, hx, hr, Result.andThen]
    exact h v w (by show World.ownsRow _ _ _ _ _ _ _; simpa using hown) ⟨rfl, rfl, rfl, Nat.le_refl _, fun _ _ _ => rfl⟩ (.inl rfl)
  · subst hsz'
    subst hby
    obtain ⟨v', w', hr, h2, h3, h4⟩ := run_append_own (P := P) w base t o.type e i z i.size i.bytes ht hi hz rfl rfl hzs hsz v n xs hown ad m c news hl hnews h1 (by simp only [maxLen]; omega) hbytes hbase
    have h5 := run_append_where base t o.type e i z ht hi hz v n xs hown ad m c news hl hnews h1 h63 hbytes v' w' hr
    unfold Oper.wp
    simp [execOp, ho, resolve, invoke, builtin, hs, hx, hr, Result.andThen]
    exact h v' w' h2 h3 h5

theorem OrdV.src {base : Nat} {w : World} {v : Value} {n : Nat} {f : Nat → Mom} (h : OrdV base w v n f) : SrcAt w v n (momCells f n) := by
  rcases h with ⟨rfl, rfl⟩ | ⟨b, cap, rfl, h0, h1, h2, cur, h3, h4, h5⟩
  · exact .inl ⟨rfl, rfl, rfl⟩
  · refine .inr (.inl ⟨b, 0, cap, rfl, ?_⟩)
    intro j u hu
    have hj : j < n * 2 := by have := (List.getElem?_eq_some_iff.1 hu).1; rwa [momCells_length] at this
    rw [← h5.cells (by rw [h4]; exact Nat.mul_le_mul_right _ h1), List.getElem?_take, if_pos hj] at hu
    simpa [World.cell?, h3] using hu
theorem OrdV.zero {base : Nat} {w : World} {sa : Option Addr} {sc n : Nat} {f : Nat → Mom} (h : OrdV base w (.slice sa n sc) n f) : w.ownsRow base 145 2 (.slice sa 0 sc) 0 [] := by
  rcases h with ⟨h, rfl⟩ | ⟨b, cap, h, h0, h1, h2, cur, h3, h4, h5⟩
  · simp only [Value.slice.injEq] at h
    obtain ⟨rfl, _, rfl⟩ := h
    exact ⟨rfl, .inl ⟨rfl, rfl⟩⟩
  · simp only [Value.slice.injEq] at h
    obtain ⟨rfl, _, rfl⟩ := h
    exact ⟨rfl, .inr ⟨b, sc, cur, rfl, h0, h3, by omega, h2, h4, by simp⟩⟩

theorem run_clear {W : World} {mb : Nat} {es : Array MapEntry} {clock : Nat} (hb : W.heap[mb]? = some (.map es clock)) (ty : TypeId) :
    (Builtin.clear_ #[107] ty #[.map (some mb)]).run Try.prog W = .ok (.tuple #[]) (withMap W mb #[] clock) := by
  simp [Builtin.clear_, run_underlying Try.underlying107, MapKept.run_getObj_map hb, MapKept.run_setObj_map _ hb, Result.andThen, withMap]

set_option maxHeartbeats 2000000 in
set_option maxRecDepth 100000 in
theorem become_any {base base' : Nat} (qb mb qb' mb' : Nat) (ov ov' : Value) (q q' : List Ev) (w : World) (h : QueP base w qb mb ov q) (h' : QueP base' w qb' mb' ov' q') (hbase : base ≤ w.heap.size) (hap : ∀ b, QSet qb mb ov b → ¬ QSet qb' mb' ov' b) :
    Calls Try.prog 68 #[.pointer (some ⟨qb, 0, none⟩), .pointer (some ⟨qb', 0, none⟩)] w
      fun e w' => ∃ ov2, e = .returned (.tuple #[]) ∧ Only (QSet qb mb ov) w w' ∧ QueP base w' qb mb ov2 q' ∧ Moved w ov ov2 := by
  obtain ⟨es, clock, hm, hq⟩ := h.map
  obtain ⟨es', clock', hm', hq'⟩ := h'.map
  obtain ⟨f, ho, hh, hf⟩ := h.ord
  obtain ⟨f', ho', hh', hf'⟩ := h'.ord
  have h0 := h.c0
  have h1 := h.c1
  have ht := h.thaw
  have h0' := h'.c0
  have h1' := h'.c1
  have hqb := lt_of_cell h0
  have hqb' := lt_of_cell h0'
  have hmb : mb < w.heap.size := (Array.getElem?_eq_some_iff.1 hm).1
  have hmb' : mb' < w.heap.size := (Array.getElem?_eq_some_iff.1 hm').1
  have hmm : mb ≠ mb' := fun e => hap mb (.inr (.inl rfl)) (by rw [e]; exact .inr (.inl rfl))
  have hqm := h.qm
  have hq'm : qb' ≠ mb := fun e => hap mb (.inr (.inl rfl)) (by rw [← e]; exact .inl rfl)
  have hqo := h.qo
  have hmo := h.mo
  have hmo' : some mb ≠ ov'.ownBlock := fun e => hap mb (.inr (.inl rfl)) (.inr (.inr e))
  obtain ⟨sa, sc, rfl⟩ := ho.form
  obtain ⟨sa', sc', rfl⟩ := ho'.form
  have hrun := run_clear hm 3
  have Hl' := hide h'.len
  have Hs' := hide h'.sorted
  have Hd' := hide h'.distinct
  have Hq' := hide hq'
  have Hh' := hide hh'
  have Hf' := hide hf'
  have Hm' := hide hm'
  have Hqo := hide hqo
  have Hmo := hide hmo
  have Hmo' := hide hmo'
  have ho1 := only_withMap w mb #[] clock
  have hz1 := withMap_size w mb #[] clock
  have hm1 := withMap_at hmb #[] clock
  have hrun : ∀ ty, (Builtin.clear_ #[107] ty #[.map (some mb)]).run Try.prog w = .ok (.tuple #[]) (withMap w mb #[] clock) := fun ty => run_clear hm ty
  generalize withMap w mb #[] clock = w1 at ho1 hz1 hm1 hrun
  have Hm1 := hide hm1
  have Ho1 := hide ho1
  have HO := hide ho
  have HO' := hide ho'
  clear hm hq hm' hq' ho hh hf ho' hh' hf' h h' hm1 hqo hmo hmo' ho1
  have g0 := Ho1.out.at h0 hqm
  have g0' := Ho1.out.at h0' hq'm
  go_enter Try.func68, Try.ntmps68
  have hms1 : w1.heap[mb']? = some (.map es' clock') := (Ho1.out.block mb' hmb' (Ne.symm hmm)).trans Hm'.out
  have Hms1 := hide hms1
  clear hms1
  go_wp2
  go_region_held3 (fun W' => W'.cell? ⟨qb, 0, none⟩ = some (.map (some mb)) ∧ W'.cell? ⟨qb', 0, none⟩ = some (.map (some mb')))
    (first | go_keep | exact ⟨ho2.at (w := w1.drew) g0 hqm, ho2.at (w := w1.drew) g0' hq'm⟩)
    (first | (go_at_call 78; refine (mapsCopy_any mb mb' es' clock' clock q' w1.drew hmm Hm1.out Hms1.out Hq'.out Hd'.out).mono ?_; rintro e w2 ⟨rfl, ho2, es2, c2, hm2, hq2⟩))
  all_goals
    have ho3 : Only (· = mb) w w2 := Ho1.out.trans ⟨ho2.os, ho2.tape, ho2.output, ho2.size, ho2.block⟩
    have hz3 := ho3.size
    have k0 := ho3.at h0 hqm
    have k1 := ho3.at h1 hqm
    have k1' := ho3.at h1' hq'm
    have kt : w2.frozen? ⟨qb, 1, none⟩ = false := by
      rw [World.frozen?_of_block (w := w) (a := ⟨qb, 1, none⟩) (ho3.block qb hqb hqm)]; exact ht
    have HZ := hide ((HO.out.only ho3 (fun b hb hc => by subst hc; exact Hmo.out hb)).zero)
    have HSr := hide (((HO'.out.only ho3 (fun b hb hc => by subst hc; exact Hmo'.out hb))).src)
    have Ho3 := hide ho3
    have Hm2 := hide hm2
    have Hq2 := hide hq2
    clear ho2 ho3 hm2 hq2 g0 g0' h0 h0' h1 h1' ht hrun Ho1
    have hl' := Hl'.out
    have own0 : (Value.slice sa 0 sc).ownBlock = (Value.slice sa q.length sc).ownBlock := by cases sa <;> rfl
    have Hq0 : Hid (¬ some qb = (Value.slice sa 0 sc).ownBlock) := by show ¬ _; rw [own0]; exact Hqo.out
    have Hq0' : Hid (¬ some qb' = (Value.slice sa 0 sc).ownBlock) := by show ¬ _; rw [own0]; exact fun e => hap qb' (.inr (.inr e)) (.inl rfl)
    have Hm0 : Hid (¬ some mb = (Value.slice sa 0 sc).ownBlock) := by show ¬ _; rw [own0]; exact Hmo.out
    have Own0 := hide own0
    clear own0
    go_wp2
    go_region_law (first | (refine step_append_src rfl (.tmp 22) (.tmp 26) 109 rfl base 145 (.agg #[.int .i64 0, .int .i64 0]) 2 16 Try.underlying109 Try.infoM rfl (by omega) (.slice sa 0 sc) 0 [] rfl (show World.ownsRow w2.drew _ _ _ _ _ _ from HZ.out) (.slice sa' q'.length sc') q'.length (momCells f' q'.length) rfl (show SrcAt w2.drew _ _ _ from HSr.out) (momCells_length _ _) (momCells_one _ _) (by omega) (by omega) (by simp; omega) ?_; intro v4 w4 hown4 hgr4 hwh4; (have ho4 : Only (fun b => some b = (Value.slice sa 0 sc).ownBlock) w2 w4 := ⟨hgr4.out.os, hgr4.out.tape, hgr4.out.output, hgr4.out.size, hgr4.out.block⟩); (have kk1 := ho4.at k1 Hq0.out); (have kk1' := ho4.at k1' Hq0'.out); (have kk0 := ho4.at k0 Hq0.out); (have kkt : w4.frozen? ⟨qb, 1, none⟩ = false := (World.frozen?_of_block (w := w2) (a := ⟨qb, 1, none⟩) (ho4.block qb (by omega) Hq0.out)).trans kt); (have hO4 : OrdV base w4 v4 q'.length f' := OrdV.of (by simpa using hown4.out)); obtain ⟨sa4, sc4, rfl⟩ := hO4.form))
    all_goals
      go_end0
      have hz4 := ho4.size
      have hmv : Moved w (.slice sa q.length sc) (.slice sa4 q'.length sc4) := by
        rcases hwh4.out with e | e
        · exact .inl (e.trans Own0.out)
        · exact .inr ⟨_, e, by simp; omega⟩
      have hnq : some qb ≠ (Value.slice sa4 q'.length sc4).ownBlock := by
        rcases hmv with e | ⟨g, e, hg⟩
        · rw [e]; exact Hqo.out
        · rw [e]; simp; omega
      have hnm : some mb ≠ (Value.slice sa4 q'.length sc4).ownBlock := by
        rcases hmv with e | ⟨g, e, hg⟩
        · rw [e]; exact Hmo.out
        · rw [e]; simp; omega
      refine ⟨_, rfl, ?_, ⟨?_, ?_, ?_, ⟨es2, c2, ?_, Hq2.out⟩, ⟨f', ?_, Hh'.out, Hf'.out⟩, hqm, hnq, hnm, Hs'.out, Hd'.out, Hl'.out⟩, hmv⟩
      · exact ((Ho3.out.mono (fun k _ hk => .inr (.inl hk))).trans (ho4.mono (fun k _ hk => .inr (.inr (hk.trans Own0.out))))).setCell (.inl rfl) _
      · rw [World.cell?_setCell_other _ _ _ _ (by simp)]; exact kk0
      · exact World.cell?_setCell_same _ _ _ kk1
      · rw [World.frozen?_setCell]; exact kkt
      · rw [Below.heap_setCell _ _ _ _ (by exact Ne.symm hqm), ho4.block mb (by omega) Hm0.out]; exact Hm2.out
      · exact hO4.only (U := (· = qb)) (Only.setCell (S := (· = qb)) (Only.refl _ _) (p := ⟨qb, 1, none⟩) rfl _) (fun b hb hc => by subst hc; exact hnq hb)
end Go.Proofs.Ytndlmgocldckfaa
