import Derived.Test.YtndlmgocldckfaaQBec
import Derived.Test.YtndlmgocldckfaaHeapW
import Derived.OwnWalk
namespace Go.Proofs.Ytndlmgocldckfaa
open Go.RowKit
set_option linter.unusedVariables false
set_option linter.unusedSimpArgs false

theorem owns_keep2 {w w' : World} {base : Nat} {e : TypeId} {size : Nat} {v : Value} {n : Nat} {xs : List Value} {U : Nat → Prop} (h : w.ownsRow base e size v n xs) (ho : Only U w w') (hU : ∀ b, some b = v.ownBlock → ¬ U b) : w'.ownsRow base e size v n xs := by
  obtain ⟨h1, h2⟩ := h
  refine ⟨h1, ?_⟩
  rcases h2 with h2 | ⟨g, cap, cur, rfl, hg, hc, r⟩
  · exact .inl h2
  · have hl := (Array.getElem?_eq_some_iff.1 hc).1
    exact .inr ⟨g, cap, cur, rfl, hg, (ho.block g hl (hU g rfl)).trans hc, r⟩
theorem OrdV.base {base base' : Nat} {w : World} {v : Value} {n : Nat} {f : Nat → Mom} (h : OrdV base w v n f) (hb : base' ≤ base) : OrdV base' w v n f := by
  rcases h with h | ⟨b, cap, rfl, h0, r⟩
  · exact .inl h
  · exact .inr ⟨b, cap, rfl, by omega, r⟩

theorem owns_formJ {w : World} {base : Nat} {e : TypeId} {size : Nat} {v : Value} {n : Nat} {xs : List Value} (h : w.ownsRow base e size v n xs) : ∃ sa sc, v = .slice sa n sc := by
  rcases owns_row h with ⟨rfl, rfl, _⟩ | ⟨g, cap, rfl, _⟩
  · exact ⟨_, _, rfl⟩
  · exact ⟨_, _, rfl⟩
theorem owns_empty (w : World) (e : TypeId) (size : Nat) : (w.alloc (.cells #[] e)).ownsRow w.heap.size e size (.slice (some ⟨w.heap.size, 0, none⟩) 0 0) 0 [] :=
  ⟨by simp, .inr ⟨w.heap.size, 0, #[], rfl, Nat.le_refl _, heap_new _ _, Nat.le_refl _, Nat.zero_le _, by simp, by simp⟩⟩

set_option maxRecDepth 100000 in
set_option maxHeartbeats 1000000 in
theorem clone_any {base : Nat} (ov : Value) (n : Nat) (f : Nat → Mom) (w : World) (h : OrdV base w ov n f) (hn : n ≤ 16) :
    Calls Try.prog 83 #[ov] w fun e w' => ∃ v, e = .returned v ∧ Below w.heap.size w w' ∧ OrdV w.heap.size w' v n f := by
  have hown := h.owns
  obtain ⟨rfl, rfl⟩ | ⟨b, cap, rfl, hb, hc, hcm, hr⟩ := h
  · have hnil := Lib.run_eql_slice_nil (P := Try.prog) w 109 145 none 0 0 0 0 Try.underlying109
    simp only [Option.isNone_none] at hnil
    go_enter Try.func83, Try.ntmps83
    go_wp2
    go_ret
    exact ⟨_, rfl, Below.refl _ _, .inl ⟨rfl, rfl⟩⟩
  · have hnil := Lib.run_eql_slice_nil (P := Try.prog) w 109 145 (some ⟨b, 0, none⟩) n cap 0 0 Try.underlying109
    simp only [Option.isNone_some] at hnil
    have Hsrc : Hid (SrcAt (w.alloc (.cells #[] 145)) (.slice (some ⟨b, 0, none⟩) n cap) n (momCells f n)) := by
      rcases owns_row hown with ⟨h1, _⟩ | ⟨g, c, h1, h2, h3, h4⟩
      · simp at h1
      · simp only [Value.slice.injEq, Option.some.injEq, Addr.mk.injEq] at h1
        obtain ⟨⟨rfl, _⟩, _, rfl⟩ := h1
        exact .inr (.inl ⟨b, 0, cap, rfl, h4.below ((Below.refl w.heap.size w).alloc (Nat.le_refl _) _) h3⟩)
    have Hml := hide (momCells_length f n)
    have Hmo := hide (momCells_one f n)
    clear hown hr
    go_enter Try.func83, Try.ntmps83
    go_wp2_with (at_builtin; refine wpList_append_src rfl (.tmp 5) (.tmp 6) 109 rfl w.heap.size 145 (.agg #[.int .i64 0, .int .i64 0]) 2 16 Try.underlying109 Try.infoM rfl (by omega) _ 0 [] rfl (owns_empty _ _ _) _ n (momCells f n) rfl Hsrc.out Hml.out Hmo.out (by omega) (by omega) (by simp) ?_)
    intro v4 w4 hown4 hgr4 hwh4
    have hbA : Below w.heap.size w (w.alloc (.cells #[] 145)) := (Below.refl _ _).alloc (Nat.le_refl _) _
    have HB : Hid (Below w.heap.size w w4) := hbA.grown hgr4.out (by simp) (fun k hk => by simp [Value.ownBlock] at hk; omega)
    clear hbA
    go_wp2_with fail
    go_ret
    exact ⟨v4, rfl, HB.out, OrdV.of (by simpa using hown4.out)⟩

theorem Try.infoEv : (Try.prog.info? 127).map (fun i => (i.zero, i.size, i.bytes)) = some (some (.agg #[.int .i64 0, .int .i64 0, .int .i64 0, .int .i64 0]), 4, 32) := by kernel_rfl

def evCells (e : Ev) : List Value := [.int .i64 e.number, .int .i64 e.time, .int .i64 e.kind, .int .i64 e.entity]
def evRow (q : List Ev) : List Value := q.flatMap evCells
theorem evRow_length (q : List Ev) : (evRow q).length = q.length * 4 := by
  induction q with
  | nil => rfl
  | cons e q ih => simp [evRow, evCells] at ih ⊢; omega
theorem evRow_snoc (q : List Ev) (e : Ev) : evRow (q ++ [e]) = evRow q ++ evCells e := by simp [evRow]

/-- The loop of InOrder: j events are listed, the others are left in a heap of the call's own. -/
structure InoR (w wr : World) (q : List Ev) (j : Nat) (lv left : Value) : Prop where
  below : Below w.heap.size w wr
  row : wr.ownsRow w.heap.size 127 4 lv j (evRow (q.take j))
  ord : ∃ f, OrdV w.heap.size wr left (q.length - j) f ∧ HeapF f (q.length - j) ∧ MomsOf f (q.length - j) (q.drop j)
  sep : ∀ b, some b = lv.ownBlock → some b ≠ left.ownBlock

set_option maxRecDepth 100000 in
set_option maxHeartbeats 4000000 in
theorem inOrder_any {base : Nat} (qb mb : Nat) (ov : Value) (q : List Ev) (w : World) (h : QueP base w qb mb ov q) :
    Calls Try.prog 70 #[.pointer (some ⟨qb, 0, none⟩)] w fun e w' => ∃ v, e = .returned v ∧ Below w.heap.size w w' ∧ w'.ownsRow w.heap.size 127 4 v q.length (evRow q) := by
  go_enter Try.func70, Try.ntmps70
  have h1 := h.c1
  have h0 := h.c0
  obtain ⟨f, hord, hheap, hmoms⟩ := h.ord
  obtain ⟨oa, oc, rfl⟩ := hord.form
  have hlen := h.len
  have hqb := lt_of_cell h0
  have H := hide h
  have hqlen : (q.length : Int) ≤ 16 := by omega
  obtain ⟨iE, hiE, hzE, hsE, hbE⟩ := info_parts Try.infoEv
  have HiE := hide hiE
  have HzE := hide hzE
  have HsE := hide hsE
  have HbE : Hid (iE.bytes * q.length ≤ 281474976710656) := by show _ ≤ _; rw [hbE]; omega
  have Hord := hide hord
  have Hheap := hide hheap
  have Hmoms := hide hmoms
  clear h hiE hzE hsE hbE hord hheap hmoms
  go_wp2_with (at_make; refine wpList_make_own _ rfl (.const (.int .i64 0)) (.tmp 9) 136 rfl w.heap.size 127 iE _ 4 Try.underlying136 HiE.out HzE.out HsE.out _ _ _ q.length rfl rfl rfl HbE.out (by simp only [maxLen]; omega) (Nat.le_refl _) ?_)
  intro w1 hown1 hgr1
  have hb1 : Below w.heap.size w w1 := (Below.refl _ _).grown hgr1 (Nat.le_refl _) (by simp)
  have k1 := below_at hb1 h1 hqb
  have k0 := below_at hb1 h0 hqb
  have HB1 := hide hb1
  have Hown1 := hide hown1
  have hz1 := hb1.size
  have HC := hide (clone_any (.slice oa q.length oc) q.length f w1 (Hord.out.below hb1) hlen)
  clear hb1 hown1 hgr1 h1 h0
  go_wp2_with fail
  refine HC.out.mono ?_
  rintro e w2 ⟨cv, rfl, hb2, hord2⟩
  obtain ⟨ca, cc, rfl⟩ := hord2.form
  replace k1 := below_at hb2 k1 (by omega)
  replace k0 := below_at hb2 k0 (by omega)
  have hglt := (Hown1.out.lt w.heap.size rfl).2
  have HI : Hid (InoR w w2 q 0 (.slice (some ⟨w.heap.size, 0, none⟩) 0 q.length) (.slice ca q.length cc)) := by
    refine ⟨HB1.out.trans (hb2.mono (by omega)), ?_, ⟨f, ?_, ?_, ?_⟩, ?_⟩
    · simpa [evRow] using owns_keep2 Hown1.out (Only.new (S := fun _ => False) hb2) (by simp)
    · exact hord2.base hz1
    · exact Hheap.out
    · exact Hmoms.out
    · intro b hb hc
      simp [Value.ownBlock] at hb
      have := (hord2.lt b hc).1
      omega
  have hz2 := hb2.size
  clear hb2 hord2 HC Hown1
  go_wp2_with fail
  go_loopg [3, 4] 18 (fun g s3 s4 wr => ∃ (j : Nat), q.length - j + 1 ≤ g ∧ j ≤ q.length ∧ Hid (InoR w wr q j s3 s4))
  case atStart => exact ⟨0, by omega, by omega, HI.out⟩
  case round =>
    obtain ⟨j, hg, hj, hI⟩ := hrel
    have hbel := hI.out.below
    obtain ⟨fj, hoj, hhj, hmj⟩ := hI.out.ord
    have hzr := hbel.size
    by_cases hlt : j < q.length
    · obtain ⟨m, hm⟩ : ∃ m, q.length - j = m + 1 := ⟨q.length - j - 1, by omega⟩
      have hdr : q.drop j = q[j] :: q.drop (j + 1) := List.drop_eq_getElem_cons hlt
      rw [hm] at hoj hhj hmj
      have hsd : Sorted (q[j] :: q.drop (j + 1)) := by rw [← hdr]; exact List.Pairwise.drop H.out.sorted
      have hdd : Distinct (q[j] :: q.drop (j + 1)) := by rw [← hdr]; exact List.Pairwise.drop H.out.distinct
      rw [hdr] at hmj
      have hfst := (hmj.first hhj hsd hdd).2
      have hmem : q[j] ∈ q := List.getElem_mem hlt
      have Htk : Hid (q.take (j + 1) = q.take j ++ [q[j]]) := List.take_succ_eq_append_getElem hlt
      have Hrm : Hid (MomsOf (putF fj 0 (fj m)) m (q.drop (j + 1))) := by
        refine hmj.remove (by omega) hfst ?_ (by simp; omega) ?_
        · intro x hx hn
          rcases List.mem_cons.1 hx with rfl | hx
          · rfl
          · exact absurd hn.symm ((List.pairwise_cons.1 hdd).1 x hx)
        · intro x
          constructor
          · intro hx
            exact ⟨List.mem_cons_of_mem _ hx, fun hc => (List.pairwise_cons.1 hdd).1 x hx hc.symm⟩
          · rintro ⟨hx, hn⟩
            rcases List.mem_cons.1 hx with rfl | hx
            · exact absurd rfl hn
            · exact hx
      obtain ⟨_, h00⟩ | ⟨b, cap, hleft, hbb, hcp, hcm, hrb⟩ := hoj
      · omega
      obtain ⟨c0, c1, _, _⟩ := hrb.cell (i := 0) (by omega)
      rw [hfst] at c0 c1
      simp only [Ev.mom, Nat.zero_mul, Nat.zero_add] at c0 c1
      obtain ⟨es, clock, hmm, hmq⟩ := H.out.map
      have hmb : mb < w.heap.size := (Array.getElem?_eq_some_iff.1 hmm).1
      have L2 : (Instr.lookup 107 (.map (some mb)) (.int .i64 q[j].number) false).run Try.prog wr.drew = .ok (evVal q[j]) wr.drew := by
        have := run_lookup_ok (W := wr.drew) ((hbel.block mb hmb).trans hmm) hmq (e := q[j]) hmem H.out.distinct false
        simpa using this
      have L1 : (Instr.lookup 107 (.map (some mb)) (.int .i64 q[j].number) false).run Try.prog wr = .ok (evVal q[j]) wr := by
        have := run_lookup_ok (W := wr) ((hbel.block mb hmb).trans hmm) hmq (e := q[j]) hmem H.out.distinct false
        simpa using this
      have g0 : wr.cell? ⟨qb, 0, none⟩ = some (.map (some mb)) := below_at hbel H.out.c0 hqb
      obtain ⟨la, lc, hlv⟩ := owns_formJ hI.out.row
      have Hrow := hide (hI.out.row.alloc (.cells #[.int .i64 q[j].number, .int .i64 q[j].time, .int .i64 q[j].kind, .int .i64 q[j].entity] 127))
      have Hsrc : Hid (SrcAt (wr.alloc (.cells #[.int .i64 q[j].number, .int .i64 q[j].time, .int .i64 q[j].kind, .int .i64 q[j].entity] 127)) (.slice (some ⟨wr.heap.size, 0, none⟩) 1 1) 1 (evCells q[j])) := by
        refine .inr (.inl ⟨_, 0, _, rfl, ?_⟩)
        intro i u hu
        rw [World.cell?_alloc_at _ _ _ _ rfl, Nat.zero_add]
        match i, hu with
        | 0, hu => simpa [evCells] using hu
        | 1, hu => simpa [evCells] using hu
        | 2, hu => simpa [evCells] using hu
        | 3, hu => simpa [evCells] using hu
        | i + 4, hu => simp [evCells] at hu
      have HbA : Hid (Below wr.heap.size wr (wr.alloc (.cells #[.int .i64 q[j].number, .int .i64 q[j].time, .int .i64 q[j].kind, .int .i64 q[j].entity] 127))) := (Below.refl _ _).alloc (Nat.le_refl _) _
      have hd1 : decide (0 < ((m : Int) + 1)) = true := by rw [decide_eq_true_eq]; omega
      have Hrb := hide hrb
      have Hhj := hide hhj
      have Hrow0 := hide hI.out.row
      have Hsep := hide hI.out.sep
      have Hbel := hide hbel
      subst hleft
      subst hlv
      have Hnl : Hid (¬ some qb = (Value.slice la j lc).ownBlock) := fun hc => by have := (Hrow0.out.lt qb hc.symm).1; omega
      have Hnb : Hid (¬ some b = (Value.slice la j lc).ownBlock) := fun hc => Hsep.out b hc rfl
      have hblt := hrb.lt
      have hzb := hide (show w.heap.size ≤ b from hbb)
      simp only [evVal] at L1 L2
      generalize q[j] = e at *
      obtain ⟨et, en, ek, ee⟩ := e
      simp only at L1 L2 c0 c1 Hrow Hsrc HbA
      clear hmj hsd hdd hdr hfst hmem hmm hmq hrb hhj hbel
      go_wp2_with fail
      go_region_held3 (fun W' => W'.cell? ⟨qb, 0, none⟩ = some (.map (some mb)) ∧ W'.cell? ⟨b, 1, none⟩ = some (.int .i64 en))
        (first | exact ⟨g0, c1⟩ | exact ⟨below_at HbA.out g0 (by omega), below_at HbA.out c1 hblt⟩ | exact ⟨gg0, gg1⟩)
        (first | (refine step_append_src rfl (.tmp 21) (.tmp 31) 136 rfl w.heap.size 127 (.agg #[.int .i64 0, .int .i64 0, .int .i64 0, .int .i64 0]) 4 32 Try.underlying136 Try.infoEv rfl (by omega) (.slice la j lc) j (evRow (q.take j)) rfl (show World.ownsRow _ _ _ _ _ _ _ from Hrow.out) (.slice (some ⟨wr.heap.size, 0, none⟩) 1 1) 1 (evCells ⟨et, en, ek, ee⟩) rfl (show SrcAt _ _ _ _ from Hsrc.out) rfl (by simp [evCells, Value.oneCell']) (by omega) (by omega) (by simp <;> omega) ?_; intro v4 w4 hown4 hgr4 hwh4; (have ho4 : Only (fun b => some b = (Value.slice la j lc).ownBlock) wr w4 := (Only.new HbA.out).trans ⟨hgr4.out.os, hgr4.out.tape, hgr4.out.output, hgr4.out.size, hgr4.out.block⟩); (have gg0 := ho4.at g0 Hnl.out); (have gg1 := ho4.at c1 Hnb.out)))
      have HO4 := hide ho4
      have hz4 := ho4.size
      have HW := hide (without_any w.heap.size b cap m 0 fj (q.drop (j + 1)) w4 hzb.out hcp hcm (Hrb.out.only ho4 Hnb.out) Hhj.out (by omega) (by omega) Hrm.out)
      clear gg0 gg1 g0 c0 c1 L1 L2 ho4
      go_wp2_with fail
      refine HW.out.mono ?_
      rintro e' w5 ⟨f5, rfl, hord5, hheap5, hmoms5, ho5⟩
      have HO5 := hide ho5
      have hz5 := ho5.size
      have Hord5 := hide hord5
      clear ho5 hord5
      go_wp2_with fail
      go_roundg (q.length - (j + 1) + 1)
      case measure => omega
      case rel =>
        have hm' : q.length - (j + 1) = m := by omega
        have hbl := Hbel.out
        have hvb : ∀ k, some k = v4.ownBlock → k ≠ b := by
          intro k hk hkb
          subst hkb
          rcases hwh4.out with e | e
          · exact Hnb.out (hk.trans e)
          · rw [e] at hk; simp at hk; omega
        refine ⟨j + 1, Nat.le_refl _, by omega, ⟨?_, ?_, ⟨f5, ?_, ?_, ?_⟩, ?_⟩⟩
        · refine hbl.trans ((HO4.out.below (by omega) ?_).trans (HO5.out.below (by omega) ?_))
          · intro k hk hc; have := (Hrow0.out.lt k hc.symm).1; omega
          · intro k hk hc; have := hzb.out; omega
        · rw [Htk.out, evRow_snoc]
          exact owns_keep2 hown4.out HO5.out (fun k hk hc => hvb k hk hc)
        · rw [hm']; exact Hord5.out
        · rw [hm']; exact hheap5
        · rw [hm']; exact hmoms5
        · intro k hk hc
          simp [Value.ownBlock] at hc
          exact hvb k hk hc
    · have hje : j = q.length := by omega
      have hoj' : q.length - j = 0 := by omega
      rw [hoj'] at hoj
      obtain ⟨sa, sc, hs4⟩ := hoj.form
      subst hs4
      have Hrow := hide hI.out.row
      have Hbel := hide hbel
      clear hoj hhj hmj hbel
      go_wp2_with fail
      go_ret
      have := Hrow.out
      rw [hje, List.take_length] at this
      exact ⟨_, rfl, Hbel.out, this⟩
end Go.Proofs.Ytndlmgocldckfaa
