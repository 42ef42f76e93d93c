import Derived.Test.YtndlmgocldckfaaGreatG08
import Derived.Test.YtndlmgocldckfaaGreatG06
import Derived.OwnWalk
import Derived.Test.YtndlmgocldckfaaGreatG29
import Derived.Test.YtndlmgocldckfaaGreatG09
namespace Go.Proofs.YtndlmgocldckfaaGreat
open Go.RowKit
set_option linter.unusedVariables false
set_option linter.unusedSimpArgs false
set_option maxRecDepth 100000
set_option maxHeartbeats 4000000
theorem owns_keep2 {w w' : World} {base : Nat} {e : TypeId} {size : Nat} {v : Value} {n : Nat} {xs : List Value} {U : Nat → Prop} (h : w.ownsRow base e size v n xs) (ho : Only U w w') (hU : ∀ b, some b = v.ownBlock → ¬ U b) : w'.ownsRow base e size v n xs := by
 obtain ⟨h1, h2⟩ := h
 refine ⟨h1, ?_⟩
 rcases h2 with h2 | ⟨g, cap, cur, rfl, hg, hc, r⟩
 ·exact .inl h2
 ·have hl := (Array.getElem?_eq_some_iff.1 hc).1
  exact .inr ⟨g, cap, cur, rfl, hg, (ho.block g hl (hU g rfl)).trans hc, r⟩
theorem OrdV.base {base base' : Nat} {w : World} {v : Value} {n : Nat} {f : Nat → Mom} (h : OrdV base w v n f) (hb : base' ≤ base) : OrdV base' w v n f := by
 rcases h with h | ⟨b, cap, rfl, h0, r⟩
 ·exact .inl h
 ·exact .inr ⟨b, cap, rfl, by omega, r⟩
theorem owns_formJ {w : World} {base : Nat} {e : TypeId} {size : Nat} {v : Value} {n : Nat} {xs : List Value} (h : w.ownsRow base e size v n xs) : ∃ sa sc, v = .slice sa n sc := by
 rcases owns_row h with ⟨rfl, rfl, _⟩ | ⟨g, cap, rfl, _⟩
 ·exact ⟨_, _, rfl⟩
 ·exact ⟨_, _, rfl⟩
theorem owns_empty (w : World) (e : TypeId) (size : Nat) : (w.alloc (.cells #[] e)).ownsRow w.heap.size e size (.slice (some ⟨w.heap.size, 0, none⟩) 0 0) 0 [] :=
 ⟨by simp, .inr ⟨w.heap.size, 0, #[], rfl, Nat.le_refl _, heap_new _ _, Nat.le_refl _, Nat.zero_le _, by simp, by simp⟩⟩
theorem clone_any {base : Nat} (ov : Value) (n : Nat) (f : Nat → Mom) (w : World) (h : OrdV base w ov n f) (hn : n ≤ 16) :
  Calls Tryz.prog 138 #[ov] w fun e w' => ∃ v, e = .returned v ∧ Below w.heap.size w w' ∧ OrdV w.heap.size w' v n f := by
 have hown := h.owns
 obtain ⟨rfl, rfl⟩ | ⟨b, cap, rfl, hb, hc, hcm, hr⟩ := h
 ·have hnil := Lib.run_eql_slice_nil (P := Tryz.prog) w 154 186 none 0 0 0 0 Tryz.underlying154
  simp only [Option.isNone_none] at hnil
  go_enter Tryz.func138, Tryz.ntmps138
  go_wp2
  go_ret
  exact ⟨_, rfl, Below.refl _ _, .inl ⟨rfl, rfl⟩⟩
 ·have hnil := Lib.run_eql_slice_nil (P := Tryz.prog) w 154 186 (some ⟨b, 0, none⟩) n cap 0 0 Tryz.underlying154
  simp only [Option.isNone_some] at hnil
  have Hsrc : Hid (SrcAt (w.alloc (.cells #[] 186)) (.slice (some ⟨b, 0, none⟩) n cap) n (momCells f n)) := by
   rcases owns_row hown with ⟨h1, _⟩ | ⟨g, c, h1, h2, h3, h4⟩
   ·simp at h1
   ·simp only [Value.slice.injEq, Option.some.injEq, Addr.mk.injEq] at h1
    obtain ⟨⟨rfl, _⟩, _, rfl⟩ := h1
    exact .inr (.inl ⟨b, 0, cap, rfl, h4.below ((Below.refl w.heap.size w).alloc (Nat.le_refl _) _) h3⟩)
  have Hml := hide (momCells_length f n)
  have Hmo := hide (momCells_one f n)
  clear hown hr
  go_enter Tryz.func138, Tryz.ntmps138
  go_wp2_with (at_builtin; refine wpList_append_src rfl (.tmp 5) (.tmp 6) 154 rfl w.heap.size 186 (.agg #[.int .i64 0, .int .i64 0]) 2 16 Tryz.underlying154 Tryz.infoM rfl (by omega) _ 0 [] rfl (owns_empty _ _ _) _ n (momCells f n) rfl Hsrc.out Hml.out Hmo.out (by omega) (by omega) (by simp) ?_)
  intro v4 w4 hown4 hgr4 hwh4
  have hbA : Below w.heap.size w (w.alloc (.cells #[] 186)) := (Below.refl _ _).alloc (Nat.le_refl _) _
  have HB : Hid (Below w.heap.size w w4) := hbA.grown hgr4.out (by simp) (fun k hk => by simp [Value.ownBlock] at hk; omega)
  clear hbA
  go_wp2_with fail
  go_ret
  exact ⟨v4, rfl, HB.out, OrdV.of (by simpa using hown4.out)⟩
theorem Tryz.infoEv : (Tryz.prog.info? 171).map (fun i => (i.zero, i.size, i.bytes)) = some (some (.agg #[.int .i64 0, .int .i64 0, .int .i64 0, .int .i64 0]), 4, 32) := by kernel_rfl
def evCells (e : Ev) : List Value := [.int .i64 e.number, .int .i64 e.time, .int .i64 e.kind, .int .i64 e.entity]
def evRow (q : List Ev) : List Value := q.flatMap evCells
theorem evRow_snoc (q : List Ev) (e : Ev) : evRow (q ++ [e]) = evRow q ++ evCells e := by simp [evRow]
structure InoR (w wr : World) (q : List Ev) (j : Nat) (lv left : Value) : Prop where
 below : Below w.heap.size w wr
 row : wr.ownsRow w.heap.size 171 4 lv j (evRow (q.take j))
 ord : ∃ f, OrdV w.heap.size wr left (q.length - j) f ∧ HeapF f (q.length - j) ∧ MomsOf f (q.length - j) (q.drop j)
 sep : ∀ b, some b = lv.ownBlock → some b ≠ left.ownBlock
theorem inOrder_any {base : Nat} (qb mb : Nat) (ov : Value) (q : List Ev) (w : World) (h : QueP base w qb mb ov q) :
  Calls Tryz.prog 130 #[.pointer (some ⟨qb, 0, none⟩)] w fun e w' => ∃ v, e = .returned v ∧ Below w.heap.size w w' ∧ w'.ownsRow w.heap.size 171 4 v q.length (evRow q) := by
 go_enter Tryz.func130, Tryz.ntmps130
 have h1 := h.c1
 have h0 := h.c0
 obtain ⟨f, hord, hheap, hmoms⟩ := h.ord
 obtain ⟨oa, oc, rfl⟩ := hord.form
 have hlen := h.len
 have hqb := lt_of_cell h0
 have H := hide h
 have hqlen : (q.length : Int) ≤ 16 := by omega
 obtain ⟨iE, hiE, hzE, hsE, hbE⟩ := info_parts Tryz.infoEv
 have HiE := hide hiE
 have HzE := hide hzE
 have HsE := hide hsE
 have HbE : Hid (iE.bytes * q.length ≤ 281474976710656) := by show _ ≤ _; rw [hbE]; omega
 have Hord := hide hord
 have Hheap := hide hheap
 have Hmoms := hide hmoms
 clear h hiE hzE hsE hbE hord hheap hmoms
 go_wp2_with (at_make; refine wpList_make_own _ rfl (.const (.int .i64 0)) (.tmp 9) 191 rfl w.heap.size 171 iE _ 4 Tryz.underlying191 HiE.out HzE.out HsE.out _ _ _ q.length rfl rfl rfl HbE.out (by simp only [maxLen]; omega) (Nat.le_refl _) ?_)
 intro w1 hown1 hgr1
 have hb1 : Below w.heap.size w w1 := (Below.refl _ _).grown hgr1 (Nat.le_refl _) (by simp)
 have k1 := below_at hb1 h1 hqb
 have k0 := below_at hb1 h0 hqb
 have HB1 := hide hb1
 have Hown1 := hide hown1
 have hz1 := hb1.size
 have HC := hide (clone_any (.slice oa q.length oc) q.length f w1 (Hord.out.below hb1) hlen)
 clear hb1 hown1 hgr1 h1 h0
 go_wp2_with fail
 refine HC.out.mono ?_
 rintro e w2 ⟨cv, rfl, hb2, hord2⟩
 obtain ⟨ca, cc, rfl⟩ := hord2.form
 replace k1 := below_at hb2 k1 (by omega)
 replace k0 := below_at hb2 k0 (by omega)
 have hglt := (Hown1.out.lt w.heap.size rfl).2
 have HI : Hid (InoR w w2 q 0 (.slice (some ⟨w.heap.size, 0, none⟩) 0 q.length) (.slice ca q.length cc)) := by
  refine ⟨HB1.out.trans (hb2.mono (by omega)), ?_, ⟨f, ?_, ?_, ?_⟩, ?_⟩
  ·simpa [evRow] using owns_keep2 Hown1.out (Only.new (S := fun _ => False) hb2) (by simp)
  ·exact hord2.base hz1
  ·exact Hheap.out
  ·exact Hmoms.out
  ·intro b hb hc
   simp [Value.ownBlock] at hb
   have := (hord2.lt b hc).1
   omega
 have hz2 := hb2.size
 clear hb2 hord2 HC Hown1
 go_wp2_with fail
 go_loopg [3, 4] 18 (fun g s3 s4 wr => ∃ (j : Nat), q.length - j + 1 ≤ g ∧ j ≤ q.length ∧ Hid (InoR w wr q j s3 s4))
 case atStart => exact ⟨0, by omega, by omega, HI.out⟩
 case round =>
  obtain ⟨j, hg, hj, hI⟩ := hrel
  have hbel := hI.out.below
  obtain ⟨fj, hoj, hhj, hmj⟩ := hI.out.ord
  have hzr := hbel.size
  by_cases hlt : j < q.length
  ·obtain ⟨m, hm⟩ : ∃ m, q.length - j = m + 1 := ⟨q.length - j - 1, by omega⟩
   have hdr : q.drop j = q[j] :: q.drop (j + 1) := List.drop_eq_getElem_cons hlt
   rw [hm] at hoj hhj hmj
   have hsd : Sorted (q[j] :: q.drop (j + 1)) := by rw [← hdr]; exact List.Pairwise.drop H.out.sorted
   have hdd : Distinct (q[j] :: q.drop (j + 1)) := by rw [← hdr]; exact List.Pairwise.drop H.out.distinct
   rw [hdr] at hmj
   have hfst := (hmj.first hhj hsd hdd).2
   have hmem : q[j] ∈ q := List.getElem_mem hlt
   have Htk : Hid (q.take (j + 1) = q.take j ++ [q[j]]) := List.take_succ_eq_append_getElem hlt
   have Hrm : Hid (MomsOf (putF fj 0 (fj m)) m (q.drop (j + 1))) := by
    refine hmj.remove (by omega) hfst ?_ (by simp; omega) ?_
    ·intro x hx hn
     rcases List.mem_cons.1 hx with rfl | hx
     ·rfl
     ·exact absurd hn.symm ((List.pairwise_cons.1 hdd).1 x hx)
    ·intro x
     constructor
     ·intro hx
      exact ⟨List.mem_cons_of_mem _ hx, fun hc => (List.pairwise_cons.1 hdd).1 x hx hc.symm⟩
     ·rintro ⟨hx, hn⟩
      rcases List.mem_cons.1 hx with rfl | hx
      ·exact absurd rfl hn
      ·exact hx
   obtain ⟨_, h00⟩ | ⟨b, cap, hleft, hbb, hcp, hcm, hrb⟩ := hoj
   ·omega
   obtain ⟨c0, c1, _, _⟩ := hrb.cell (i := 0) (by omega)
   rw [hfst] at c0 c1
   simp only [Ev.mom, Nat.zero_mul, Nat.zero_add] at c0 c1
   obtain ⟨es, clock, hmm, hmq⟩ := H.out.map
   have hmb : mb < w.heap.size := (Array.getElem?_eq_some_iff.1 hmm).1
   have L2 : (Instr.lookup 152 (.map (some mb)) (.int .i64 q[j].number) false).run Tryz.prog wr.drew = .ok (evVal q[j]) wr.drew := by
    have := run_lookup_ok (W := wr.drew) ((hbel.block mb hmb).trans hmm) hmq (e := q[j]) hmem H.out.distinct false
    simpa using this
   have L1 : (Instr.lookup 152 (.map (some mb)) (.int .i64 q[j].number) false).run Tryz.prog wr = .ok (evVal q[j]) wr := by
    have := run_lookup_ok (W := wr) ((hbel.block mb hmb).trans hmm) hmq (e := q[j]) hmem H.out.distinct false
    simpa using this
   have g0 : wr.cell? ⟨qb, 0, none⟩ = some (.map (some mb)) := below_at hbel H.out.c0 hqb
   obtain ⟨la, lc, hlv⟩ := owns_formJ hI.out.row
   have Hrow := hide (hI.out.row.alloc (.cells #[.int .i64 q[j].number, .int .i64 q[j].time, .int .i64 q[j].kind, .int .i64 q[j].entity] 171))
   have Hsrc : Hid (SrcAt (wr.alloc (.cells #[.int .i64 q[j].number, .int .i64 q[j].time, .int .i64 q[j].kind, .int .i64 q[j].entity] 171)) (.slice (some ⟨wr.heap.size, 0, none⟩) 1 1) 1 (evCells q[j])) := by
    refine .inr (.inl ⟨_, 0, _, rfl, ?_⟩)
    intro i u hu
    rw [World.cell?_alloc_at _ _ _ _ rfl, Nat.zero_add]
    match i, hu with
    | 0, hu => simpa [evCells] using hu
    | 1, hu => simpa [evCells] using hu
    | 2, hu => simpa [evCells] using hu
    | 3, hu => simpa [evCells] using hu
    | i + 4, hu => simp [evCells] at hu
   have HbA : Hid (Below wr.heap.size wr (wr.alloc (.cells #[.int .i64 q[j].number, .int .i64 q[j].time, .int .i64 q[j].kind, .int .i64 q[j].entity] 171))) := (Below.refl _ _).alloc (Nat.le_refl _) _
   have hd1 : decide (0 < ((m : Int) + 1)) = true := by rw [decide_eq_true_eq]; omega
   have Hrb := hide hrb
   have Hhj := hide hhj
   have Hrow0 := hide hI.out.row
   have Hsep := hide hI.out.sep
   have Hbel := hide hbel
   subst hleft
   subst hlv
   have Hnl : Hid (¬ some qb = (Value.slice la j lc).ownBlock) := fun hc => by have := (Hrow0.out.lt qb hc.symm).1; omega
   have Hnb : Hid (¬ some b = (Value.slice la j lc).ownBlock) := fun hc => Hsep.out b hc rfl
   have hblt := hrb.lt
   have hzb := hide (show w.heap.size ≤ b from hbb)
   simp only [evVal] at L1 L2
   generalize q[j] = e at *
   obtain ⟨et, en, ek, ee⟩ := e
   simp only at L1 L2 c0 c1 Hrow Hsrc HbA
   clear hmj hsd hdd hdr hfst hmem hmm hmq hrb hhj hbel
   go_wp2_with fail
   go_region_held3 (fun W' => W'.cell? ⟨qb, 0, none⟩ = some (.map (some mb)) ∧ W'.cell? ⟨b, 1, none⟩ = some (.int .i64 en))
    (first | exact ⟨g0, c1⟩ | exact ⟨below_at HbA.out g0 (by omega), below_at HbA.out c1 hblt⟩ | exact ⟨gg0, gg1⟩)
    (first | (refine step_append_src rfl (.tmp 21) (.tmp 31) 191 rfl w.heap.size 171 (.agg #[.int .i64 0, .int .i64 0, .int .i64 0, .int .i64 0]) 4 32 Tryz.underlying191 Tryz.infoEv rfl (by omega) (.slice la j lc) j (evRow (q.take j)) rfl (show World.ownsRow _ _ _ _ _ _ _ from Hrow.out) (.slice (some ⟨wr.heap.size, 0, none⟩) 1 1) 1 (evCells ⟨et, en, ek, ee⟩) rfl (show SrcAt _ _ _ _ from Hsrc.out) rfl (by simp [evCells, Value.oneCell']) (by omega) (by omega) (by simp <;> omega) ?_; intro v4 w4 hown4 hgr4 hwh4; (have ho4 : Only (fun b => some b = (Value.slice la j lc).ownBlock) wr w4 := (Only.new HbA.out).trans ⟨hgr4.out.os, hgr4.out.tape, hgr4.out.output, hgr4.out.size, hgr4.out.block⟩); (have gg0 := ho4.at g0 Hnl.out); (have gg1 := ho4.at c1 Hnb.out)))
   have HO4 := hide ho4
   have hz4 := ho4.size
   have HW := hide (without_any w.heap.size b cap m 0 fj (q.drop (j + 1)) w4 hzb.out hcp hcm (Hrb.out.only ho4 Hnb.out) Hhj.out (by omega) (by omega) Hrm.out)
   clear gg0 gg1 g0 c0 c1 L1 L2 ho4
   go_wp2_with fail
   refine HW.out.mono ?_
   rintro e' w5 ⟨f5, rfl, hord5, hheap5, hmoms5, ho5⟩
   have HO5 := hide ho5
   have hz5 := ho5.size
   have Hord5 := hide hord5
   clear ho5 hord5
   go_wp2_with fail
   go_roundg (q.length - (j + 1) + 1)
   case measure => omega
   case rel =>
    have hm' : q.length - (j + 1) = m := by omega
    have hbl := Hbel.out
    have hvb : ∀ k, some k = v4.ownBlock → k ≠ b := by
     intro k hk hkb
     subst hkb
     rcases hwh4.out with e | e
     ·exact Hnb.out (hk.trans e)
     ·rw [e] at hk; simp at hk; omega
    refine ⟨j + 1, Nat.le_refl _, by omega, ⟨?_, ?_, ⟨f5, ?_, ?_, ?_⟩, ?_⟩⟩
    ·refine hbl.trans ((HO4.out.below (by omega) ?_).trans (HO5.out.below (by omega) ?_))
     ·intro k hk hc; have := (Hrow0.out.lt k hc.symm).1; omega
     ·intro k hk hc; have := hzb.out; omega
    ·rw [Htk.out, evRow_snoc]
     exact owns_keep2 hown4.out HO5.out (fun k hk hc => hvb k hk hc)
    ·rw [hm']; exact Hord5.out
    ·rw [hm']; exact hheap5
    ·rw [hm']; exact hmoms5
    ·intro k hk hc
     simp [Value.ownBlock] at hc
     exact hvb k hk hc
  ·have hje : j = q.length := by omega
   have hoj' : q.length - j = 0 := by omega
   rw [hoj'] at hoj
   obtain ⟨sa, sc, hs4⟩ := hoj.form
   subst hs4
   have Hrow := hide hI.out.row
   have Hbel := hide hbel
   clear hoj hhj hmj hbel
   go_wp2_with fail
   go_ret
   have := Hrow.out
   rw [hje, List.take_length] at this
   exact ⟨_, rfl, Hbel.out, this⟩
def evB : Int → List Ev → List Int
 | _, [] => []
 | t, e :: q => numB (e.time - t) ++ (numB e.number ++ (numB e.kind ++ (numB e.entity ++ evB e.time q)))
def lastT (t : Int) (q : List Ev) : Int := (q.getLast?.map (·.time)).getD t
theorem evB_snoc : ∀ (t : Int) (q : List Ev) (e : Ev), evB t (q ++ [e]) = evB t q ++ (numB (e.time - lastT t q) ++ (numB e.number ++ (numB e.kind ++ numB e.entity)))
 | t, [], e => by simp [evB, lastT]
 | t, x :: q, e => by
  have := evB_snoc x.time q e
  rw [List.cons_append, evB, this, evB]
  have hl : lastT x.time q = lastT t (x :: q) := by
   unfold lastT
   cases q with
   | nil => simp
   | cons y q => rw [List.getLast?_cons_cons]; rcases h : (y :: q).getLast? with _ | z <;> simp_all
  rw [hl]
  simp
theorem lastT_snoc (t : Int) (q : List Ev) (i : Nat) (hi : i < q.length) : lastT t (q.take (i + 1)) = q[i].time := by
 unfold lastT
 rw [List.take_succ_eq_append_getElem hi, List.getLast?_append]
 simp
theorem lastT_le {t : Int} {q : List Ev} (hs : Sorted q) (h0 : ∀ e ∈ q, t ≤ e.time) (i : Nat) (hi : i < q.length) : t ≤ lastT t (q.take i) ∧ lastT t (q.take i) ≤ q[i].time := by
 rcases Nat.eq_zero_or_pos i with rfl | hp
 ·simpa [lastT] using h0 q[0] (List.getElem_mem hi)
 ·obtain ⟨k, rfl⟩ : ∃ k, i = k + 1 := ⟨i - 1, by omega⟩
  rw [lastT_snoc t q k (by omega)]
  have := List.pairwise_iff_getElem.1 hs k (k + 1) (by omega) hi (by omega)
  refine ⟨h0 _ (List.getElem_mem _), ?_⟩
  simp only [aheadF, Bool.or_eq_true, decide_eq_true_eq, Bool.and_eq_true] at this
  omega
theorem evRow_get : ∀ (q : List Ev) (i r : Nat), r < 4 → (evRow q)[i * 4 + r]? = q[i]?.bind fun e => (evCells e)[r]?
 | [], i, r, _ => by simp [evRow]
 | x :: l, 0, r, h => by
  have : r = 0 ∨ r = 1 ∨ r = 2 ∨ r = 3 := by omega
  rcases this with rfl | rfl | rfl | rfl <;> simp [evRow, evCells]
 | x :: l, i + 1, r, h => by
  have ih := evRow_get l i r h
  have e : (i + 1) * 4 + r = (i * 4 + r) + 1 + 1 + 1 + 1 := by omega
  rw [e]
  simpa [evRow, evCells] using ih
theorem evRow_at {w : World} {g : Nat} {q : List Ev} (h : RowAt w g 0 (evRow q)) (i : Nat) (hi : i < q.length) : w.cell? ⟨g, i * 4, none⟩ = some (.int .i64 q[i].number) ∧ w.cell? ⟨g, i * 4 + 1, none⟩ = some (.int .i64 q[i].time) ∧ w.cell? ⟨g, i * 4 + 2, none⟩ = some (.int .i64 q[i].kind) ∧ w.cell? ⟨g, i * 4 + 3, none⟩ = some (.int .i64 q[i].entity) := by
 have g4 := fun r (hr : r < 4) (v : Value) (hv : (evCells q[i])[r]? = some v) => h (i * 4 + r) v (by rw [evRow_get q i r hr, List.getElem?_eq_getElem hi]; exact hv)
 exact ⟨by simpa using g4 0 (by omega) _ rfl, by simpa using g4 1 (by omega) _ rfl, by simpa using g4 2 (by omega) _ rfl, by simpa using g4 3 (by omega) _ rfl⟩
def regB (s : KS) (n : Nat) : List Int := (List.range n).flatMap fun j => sgnB (s.regs j)
theorem regB_succ (s : KS) (n : Nat) : regB s (n + 1) = regB s n ++ sgnB (s.regs n) := by simp [regB, List.range_succ]
def bodyF (ents : Int) (nk : Nat) (s : KS) : List Int :=
 numB ents ++ (numB nk ++ (numB s.clock ++ (numB s.next ++ (numB s.taken ++ (regB s (ents.toNat * 4) ++ (numB s.q.length ++ evB s.clock s.q))))))
theorem evB_len : ∀ (t : Int) (q : List Ev), (evB t q).length ≤ q.length * 40
 | t, [] => by simp [evB]
 | t, e :: q => by
  have h1 := numB_len (e.time - t)
  have h2 := numB_len e.number
  have h3 := numB_len e.kind
  have h4 := numB_len e.entity
  have := evB_len e.time q
  simp [evB]; omega
theorem regB_len (s : KS) : ∀ n, (regB s n).length ≤ n * 10
 | 0 => by simp [regB]
 | n + 1 => by
  have := regB_len s n
  have h := numB_len (sgnI (s.regs n))
  rw [regB_succ, List.length_append]
  unfold sgnB
  omega
structure SvR (w wr : World) (wb : Nat) (lv : Value) (l : List Int) : Prop where
 below : Below w.heap.size w wr
 wr : WrP w.heap.size wr wb lv l
 wlt : w.heap.size ≤ wb
theorem SvR.num {w wr w2 : World} {wb : Nat} {lv lv2 : Value} {l l2 : List Int} (h : SvR w wr wb lv l) (k : NumR w.heap.size wr w2 wb lv lv2 l2) : SvR w w2 wb lv2 l2 := by
 refine ⟨h.below.trans (k.only.below h.below.size ?_), k.wr, h.wlt⟩
 rintro b hb (hc | hc)
 ·have := h.wlt; omega
 ·have := (h.wr.row.lt b hc).1; omega
theorem SvR.bel {w wr w2 : World} {wb : Nat} {lv : Value} {l : List Int} (h : SvR w wr wb lv l) (k : Below wr.heap.size wr w2) : SvR w w2 wb lv l := by
 have hz := h.below.size
 refine ⟨h.below.trans (k.mono hz), ⟨below_at k h.wr.cell (lt_of_cell h.wr.cell), h.wr.room.below k (lt_of_cell h.wr.cell), h.wr.row.keep (Only.new (S := fun _ => False) k) (by simp), h.wr.sep⟩, h.wlt⟩
def Apart (wr : World) (wb : Nat) (lv : Value) (g : Nat) : Prop := g < wr.heap.size ∧ g ≠ wb ∧ some g ≠ lv.ownBlock
def Stay (wr : World) (wb : Nat) (lv : Value) (w' : World) (lv' : Value) : Prop := ∀ g, Apart wr wb lv g → Apart w' wb lv' g ∧ w'.heap[g]? = wr.heap[g]?
theorem Stay.refl (wr : World) (wb : Nat) (lv : Value) : Stay wr wb lv wr lv := fun g h => ⟨h, rfl⟩
theorem Stay.trans {a b c : World} {wb : Nat} {lv lv1 lv2 : Value} (h : Stay a wb lv b lv1) (k : Stay b wb lv1 c lv2) : Stay a wb lv c lv2 :=
 fun g hg => let ⟨h1, h2⟩ := h g hg; let ⟨k1, k2⟩ := k g h1; ⟨k1, k2.trans h2⟩
theorem Stay.at {a b : World} {wb : Nat} {lv lv1 : Value} (h : Stay a wb lv b lv1) {g o : Nat} {v : Value} (hg : Apart a wb lv g) (hc : a.cell? ⟨g, o, none⟩ = some v) : b.cell? ⟨g, o, none⟩ = some v :=
 (World.cell?_of_block (w := a) (a := ⟨g, o, none⟩) (h g hg).2).trans hc
theorem Stay.bel {a b c : World} {wb : Nat} {lv lv1 : Value} (h : Stay a wb lv b lv1) (k : Below b.heap.size b c) : Stay a wb lv c lv1 := by
 intro g hg
 obtain ⟨⟨h1, h2, h3⟩, h4⟩ := h g hg
 have := k.size
 exact ⟨⟨by omega, h2, h3⟩, (k.block g h1).trans h4⟩
theorem NumR.stay {base : Nat} {wr w' : World} {wb : Nat} {lv lv' : Value} {l : List Int} (h : NumR base wr w' wb lv lv' l) : Stay wr wb lv w' lv' := by
 rintro g ⟨h1, h2, h3⟩
 have hz := h.only.size
 refine ⟨⟨by omega, h2, ?_⟩, h.only.block g h1 (by rintro (hc | hc); exact h2 hc; exact h3 hc)⟩
 rcases h.moved with e | ⟨g', e, hg'⟩
 ·rw [e]; exact h3
 ·rw [e]; intro hc; simp at hc; omega
section
variable {w wr : World} {wb : Nat} {lv : Value} {l : List Int}
theorem sNum (n : Int) (h : SvR w wr wb lv l) (hl : l.length ≤ 1000000) (hn : 0 ≤ n ∧ n ≤ 9223372036854775807) :
  Calls Tryz.prog 110 #[.pointer (some ⟨wb, 0, none⟩), .int .i64 n] wr fun e w' => e = .returned (.tuple #[]) ∧ ∃ lv', SvR w w' wb lv' (l ++ numB n) ∧ Stay wr wb lv w' lv' :=
 (number_any _ wb lv l n wr h.wr h.below.size hl hn).mono (by rintro e w' ⟨rfl, lv', hN⟩; exact ⟨rfl, lv', h.num hN, hN.stay⟩)
theorem sSgn (n : Int) (h : SvR w wr wb lv l) (hl : l.length ≤ 1000000) (hn : -1000000000 ≤ n ∧ n ≤ 1000000000) :
  Calls Tryz.prog 111 #[.pointer (some ⟨wb, 0, none⟩), .int .i64 n] wr fun e w' => e = .returned (.tuple #[]) ∧ ∃ lv', SvR w w' wb lv' (l ++ sgnB n) ∧ Stay wr wb lv w' lv' :=
 (signed_any _ wb lv l n wr h.wr h.below.size hl hn).mono (by rintro e w' ⟨rfl, lv', hN⟩; exact ⟨rfl, lv', h.num hN, hN.stay⟩)
end
theorem wQueue_any {R : Nat → Prop} {base : Nat} (kb qb mb : Nat) (ov : Value) (ents : Int) (ks : List (List Ins)) (draws : List Int) (s : KS) (w wr : World) (wb : Nat) (lv : Value) (l : List Int) (h : KerP R base w kb qb mb ov ents ks draws s) (hok : KOk ents ks.length draws s) (hk8 : ks.length ≤ 8) (he8 : ents ≤ 8) (hsrt : Sorted s.q) (hS : SvR w wr wb lv l) (hl : l.length ≤ 1000) :
  Calls Tryz.prog 118 #[.pointer (some ⟨kb, 0, none⟩), .pointer (some ⟨wb, 0, none⟩)] wr fun e w' => e = .returned (.tuple #[]) ∧ ∃ lv', SvR w w' wb lv' (l ++ (numB s.q.length ++ evB s.clock s.q)) := by
 have H := hide h
 have HS := hide hS
 have hk := h.klt
 have k3 := below_at hS.below h.c3 hk
 have k4 := below_at hS.below h.c4 hk
 have hq16 := hok.len
 clear h hS
 go_enter Tryz.func118, Tryz.ntmps118
 go_wp2_with fail
 refine (qLen_any qb mb ov s.q _ (H.out.below HS.out.below).que).mono ?_
 rintro e w1 ⟨rfl, rfl⟩
 go_wp2_with fail
 refine (sNum (s.q.length : Int) HS.out (by omega) (by omega)).mono ?_
 rintro e w2 ⟨rfl, lv2, hS2, _⟩
 have HS2 := hide hS2
 have HS2c := hide hS2.wr.cell
 have HS2r := hide hS2.wr.row
 have j3 := below_at hS2.below H.out.c3 hk
 have j4 := below_at hS2.below H.out.c4 hk
 have hz2 := hS2.below.size
 clear hS2 k3 k4
 go_wp2_with fail
 refine (inOrder_any qb mb ov s.q _ (H.out.below HS2.out.below).que).mono ?_
 rintro e w3 ⟨iv, rfl, hb3, hrow3⟩
 obtain ⟨ia, ic, rfl⟩ := owns_formJ hrow3
 have HS3 := hide (HS2.out.bel hb3)
 have hz3 := hb3.size
 have Hrow3 := hide hrow3
 clear hb3 hrow3 HS2 j3 j4
 go_wp2_with fail
 have hll := numB_len (s.q.length : Int)
 have hev := hide hok.evs
 have hcl := hok.clock
 have hnx := hok.next
 obtain ⟨g, cap, hia, hgrow⟩ : ∃ g, ∃ cap : Nat, (s.q ≠ [] → ia = some ⟨g, 0, none⟩) ∧ (s.q ≠ [] → RowAt w3 g 0 (evRow s.q) ∧ Apart w3 wb lv2 g) := by
  rcases owns_row Hrow3.out with ⟨e1, e2, e3⟩ | ⟨g, cap, e1, e2, e3, e4⟩
  ·exact ⟨0, 0, fun hc => absurd (List.eq_nil_of_length_eq_zero e2) hc, fun hc => absurd (List.eq_nil_of_length_eq_zero e2) hc⟩
  ·simp only [Value.slice.injEq] at e1
   refine ⟨g, cap, fun _ => e1.1, fun _ => ⟨e4, e3, ?_, ?_⟩⟩
   ·have := lt_of_cell HS2c.out; omega
   ·intro hc; have := (HS2r.out.lt g hc).2; omega
 have Hgrow := hide hgrow
 clear hgrow
 go_loopg [4, 25] 18 (fun gf s4 s25 wr => ∃ (i : Nat) (lvi : Value), s25 = .int .i64 i ∧ s4 = .int .i64 (lastT s.clock (s.q.take i)) ∧ s.q.length - i + 1 ≤ gf ∧ i ≤ s.q.length ∧ Hid (SvR w wr wb lvi ((l ++ numB s.q.length) ++ evB s.clock (s.q.take i)) ∧ Stay w3 wb lv2 wr lvi))
 case atStart => exact ⟨0, lv2, rfl, by simp [lastT], by omega, by omega, by simpa [evB] using HS3.out, Stay.refl _ _ _⟩
 case round =>
  obtain ⟨i, lvi, rfl, rfl, hgf, hi, hI⟩ := hrel
  have hlb : (evB s.clock (s.q.take i)).length ≤ 640 := by
   have := evB_len s.clock (s.q.take i)
   have h2 : (s.q.take i).length ≤ 16 := by simp; omega
   omega
  by_cases hlt : i < s.q.length
  ·have hne : s.q ≠ [] := by intro hc; rw [hc] at hlt; simp at hlt
   obtain rfl := hia hne
   obtain ⟨hra, hap⟩ := Hgrow.out hne
   obtain ⟨a0, a1, a2, a3⟩ := evRow_at hra i hlt
   have c0 := hI.out.2.at hap a0
   have c1 := hI.out.2.at hap a1
   have c2 := hI.out.2.at hap a2
   have c3 := hI.out.2.at hap a3
   have d1 : decide ((i : Int) < (s.q.length : Int)) = true := by simp; omega
   have hii : (i : Int) < (s.q.length : Int) := by omega
   have hw : IntKind.i64.wrap ((i : Int) + 1) = (i : Int) + 1 := by rw [IntKind.wrap_i64]; omega
   have hls := lastT_le hsrt (fun e he => (hev.out e he).1) i hlt
   have hee := hev.out s.q[i] (List.getElem_mem hlt)
   have HT : Hid (evB s.clock (s.q.take (i + 1)) = evB s.clock (s.q.take i) ++ (numB (s.q[i].time - lastT s.clock (s.q.take i)) ++ (numB s.q[i].number ++ (numB s.q[i].kind ++ numB s.q[i].entity)))) := by
    show _ = _
    rw [List.take_succ_eq_append_getElem hlt, evB_snoc]
   have HLn := hide (lastT_snoc s.clock s.q i hlt)
   generalize lastT s.clock (s.q.take i) = pt at hls HT ⊢
   generalize s.q[i] = e at a0 a1 a2 a3 c0 c1 c2 c3 hls hee HT HLn
   obtain ⟨et, en, ek, ee⟩ := e
   simp only at a0 a1 a2 a3 c0 c1 c2 c3 hls hee HT HLn
   have hws : IntKind.i64.wrap (et - pt) = et - pt := by rw [IntKind.wrap_i64]; omega
   have HI := hide hI.out.1
   have HSt := hide hI.out.2
   have hxl : wb < wr.heap.size := lt_of_cell hI.out.1.wr.cell
   have Hxr := hide hI.out.1.wr.row
   clear hra hap a0 a1 a2 a3
   generalize hbs : (l ++ numB s.q.length) ++ evB s.clock (s.q.take i) = bs at HI
   have hbl : bs.length ≤ 1800 := by rw [← hbs]; simp; omega
   have Hbs := hide hbs
   clear hbs
   have n1 := numB_len (et - pt)
   have n2 := numB_len en
   have n3 := numB_len ek
   go_wp2_with fail
   obtain ⟨W4, hW4⟩ : ∃ W4, W4 = wr.alloc (.cells #[.int .i64 en, .int .i64 et, .int .i64 ek, .int .i64 ee] 171) := ⟨_, rfl⟩
   have hb4 : Below wr.heap.size wr W4 := by rw [hW4]; exact (Below.refl _ _).alloc (Nat.le_refl _) _
   have hz4 : W4.heap.size = wr.heap.size + 1 := by rw [hW4]; simp
   have x0 : W4.cell? ⟨wr.heap.size, 0, none⟩ = some (.int .i64 en) := by rw [hW4]; simp [go_sem]
   have x1 : W4.cell? ⟨wr.heap.size, 1, none⟩ = some (.int .i64 et) := by rw [hW4]; simp [go_sem]
   have x2 : W4.cell? ⟨wr.heap.size, 2, none⟩ = some (.int .i64 ek) := by rw [hW4]; simp [go_sem]
   have x3 : W4.cell? ⟨wr.heap.size, 3, none⟩ = some (.int .i64 ee) := by rw [hW4]; simp [go_sem]
   have hapx : Apart W4 wb lvi wr.heap.size := ⟨by omega, by omega, fun hc => by have := (Hxr.out.lt _ hc).2; omega⟩
   have HS4 := hide (HI.out.bel hb4)
   have HSt4 := hide (HSt.out.bel hb4)
   rw [← hW4]
   clear hW4 hb4 c0 c1 c2 c3
   refine (sNum (et - pt) HS4.out (by omega) (by omega)).mono ?_
   rintro e w5 ⟨rfl, lv5, hS5, hst5⟩
   have y0 := hst5.at hapx x0
   have y1 := hst5.at hapx x1
   have y2 := hst5.at hapx x2
   have y3 := hst5.at hapx x3
   have hap5 := (hst5 _ hapx).1
   have HS5 := hide hS5
   have Hst5 := hide hst5
   clear x0 x1 x2 x3 hS5 hst5 hapx
   go_wp2_with fail
   refine (sNum en HS5.out (by simp; omega) (by omega)).mono ?_
   rintro e w6 ⟨rfl, lv6, hS6, hst6⟩
   have z1 := hst6.at hap5 y1
   have z2 := hst6.at hap5 y2
   have z3 := hst6.at hap5 y3
   have hap6 := (hst6 _ hap5).1
   have HS6 := hide hS6
   have Hst6 := hide hst6
   clear y0 y1 y2 y3 hS6 hst6 hap5
   go_wp2_with fail
   refine (sNum ek HS6.out (by simp; omega) (by omega)).mono ?_
   rintro e w7 ⟨rfl, lv7, hS7, hst7⟩
   have u1 := hst7.at hap6 z1
   have u3 := hst7.at hap6 z3
   have hap7 := (hst7 _ hap6).1
   have HS7 := hide hS7
   have Hst7 := hide hst7
   clear z1 z2 z3 hS7 hst7 hap6
   go_wp2_with fail
   refine (sNum ee HS7.out (by simp; omega) (by omega)).mono ?_
   rintro e w8 ⟨rfl, lv8, hS8, hst8⟩
   have v1 := hst8.at hap7 u1
   have HS8 := hide hS8
   have Hst8 := hide hst8
   clear u1 u3 hS8 hst8 hap7
   go_wp2_with fail
   go_roundg (s.q.length - (i + 1) + 1)
   case measure => omega
   case rel =>
    refine ⟨i + 1, lv8, by go_num, by rw [HLn.out], Nat.le_refl _, by omega, ?_, ((((HSt4.out.trans Hst5.out).trans Hst6.out).trans Hst7.out).trans Hst8.out)⟩
    have := HS8.out
    rw [← Hbs.out] at this
    rw [HT.out]
    simpa using this
  ·have d1 : decide ((i : Int) < (s.q.length : Int)) = false := by simp; omega
   have hq : s.q.take i = s.q := List.take_of_length_le (by omega)
   have HI := hide hI.out.1
   clear hgf
   go_wp2_with fail
   go_end0
   have := HI.out
   rw [hq] at this
   exact ⟨rfl, lvi, by simpa using this⟩
end Go.Proofs.YtndlmgocldckfaaGreat
