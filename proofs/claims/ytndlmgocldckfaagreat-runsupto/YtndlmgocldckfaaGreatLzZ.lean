import Derived.Test.YtndlmgocldckfaaGreatBkY
import Derived.Test.YtndlmgocldckfaaGreatLxZ
import Derived.Test.YtndlmgocldckfaaGreatRcZ
import Derived.Test.YtndlmgocldckfaaGreatRfM
import Derived.Test.YtndlmgocldckfaaGreatStZ
import Derived.Test.YtndlmgocldckfaaGreatLvZ
import Derived.Test.YtndlmgocldckfaaGreatRows
import Derived.WalkKit
import Derived.ProofKit
import Derived.OpenShut
import Derived.ChangeOld
import Derived.SizedLaws
import Derived.Deep.CondSized
import Derived.Below
namespace Go.Proofs.YtndlmgocldckfaaGreat
open Go.RowKit
set_option linter.unusedVariables false
set_option linter.unusedSimpArgs false

/-! The book within the world. -/

theorem firstBad_may {ents : Int} {nk : Nat} : ∀ (l : List Ins) (i : Nat), firstBad ents nk l i = none → ∀ x ∈ l, mayF ents nk x.op x.a x.b x.c = true
  | [], i, _, x, hx => by simp at hx
  | y :: l, i, h, x, hx => by
    rw [firstBad] at h
    split at h
    · rcases List.mem_cons.1 hx with rfl | hx
      · assumption
      · exact firstBad_may l (i + 1) h x hx
    · simp at h
theorem firstKind_may {ents : Int} {nk : Nat} : ∀ (ks : List (List Ins)) (i : Nat), firstKind ents nk ks i = none → ∀ l ∈ ks, l.length ≤ 16 ∧ ∀ x ∈ l, mayF ents nk x.op x.a x.b x.c = true
  | [], i, _, l, hl => by simp at hl
  | y :: ks, i, h, l, hl => by
    rcases hc : codeF ents nk y with _ | p
    · rw [firstKind, hc] at h
      rcases List.mem_cons.1 hl with rfl | hl
      · unfold codeF at hc
        split at hc
        · simp at hc
        · exact ⟨by omega, firstBad_may l 0 hc⟩
      · exact firstKind_may ks (i + 1) h l hl
    · rw [firstKind, hc] at h
      simp at h
theorem codes_of_kind {ents : Int} {ks : List (List Ins)} (h : kindF ents ks = none) : CodesOk ents ks := by
  unfold kindF at h
  split at h
  · simp at h
  · exact firstKind_may ks 0 h
theorem draws_of {draws : List Int} (h : drawsF draws = true) : DrawsOk draws := by
  intro d hd
  simp only [drawsF, Bool.and_eq_true, List.all_eq_true] at h
  have := h.2 d hd
  simp [drawB, inB] at this
  exact this

def bookOf (k : BkD) : BookD := ⟨k.bv, k.iv, k.rv, k.set, fun w => BkOK w k⟩
theorem bookOf_stable (k : BkD) : (bookOf k).stable := fun w w' S h ho hS => BkOK.only h ho hS
def bk0 : BkD := ⟨.slice none 0 0, .slice none 0 0, .slice none 0 0, [], [], []⟩
theorem bk0_ents (b : Nat) : ¬ bk0.ents b := by rintro ⟨v, hv, _⟩; simp [bk0] at hv
theorem bk0_set (b : Nat) : ¬ bk0.set b := by
  rintro (hb | hb | hb | hb)
  · exact bk0_ents b hb
  · simp [bk0, Value.ownBlock] at hb
  · simp [bk0, Value.ownBlock] at hb
  · simp [bk0, Value.ownBlock] at hb
theorem bk0_ok (w : World) : BkOK w bk0 :=
  ⟨World.ownsRow_nil _ _ _ _, World.ownsRow_nil _ _ _ _, World.ownsRow_nil _ _ _ _, by simp [bk0], by simp [bk0], by simp [bk0], fun b hb => absurd hb (bk0_ents b), fun b hb => absurd hb (bk0_ents b), by simp [bk0, Value.ownBlock], by simp [bk0, Value.ownBlock], by simp [bk0, Value.ownBlock], by simp [bk0], by simp [bk0]⟩
theorem inv_start0 (w : World) (T : TypeId) : Inv w.heap.size (w.alloc (.cells #[.slice none 0 0, .slice none 0 0, .slice none 0 0, .slice none 0 0] T)) w.heap.size (.slice none 0 0) [] (bookOf bk0) := by
  refine ⟨by simp [go_sem], ⟨by simp [go_sem, bookOf, bk0], by simp [go_sem, bookOf, bk0], by simp [go_sem, bookOf, bk0]⟩, ?_, World.ownsRow_nil _ _ _ _, by simp [Value.ownBlock], Nat.le_refl _, by simp, by simp, by simp, fun b hb => absurd hb (bk0_set b), bk0_ok _, bookOf_stable _⟩
  intro j hj
  have : j = 0 ∨ j = 1 ∨ j = 2 ∨ j = 3 := by omega
  rcases this with rfl | rfl | rfl | rfl <;> simp [go_sem]

section
variable {base : Nat} {w w' : World} {wb : Nat} {lv : Value} {ps : List Pair} {k k' : BkD}
theorem Inv.bkp (h : Inv base w wb lv ps (bookOf k)) : BkP w wb k := ⟨h.bok, fun hc => (h.bks wb hc).2.2.1 rfl, h.room, h.book.1, h.book.2.1, h.book.2.2⟩

theorem Inv.bookStep {S : Nat → Prop} (h : Inv base w wb lv ps (bookOf k)) (hs : BkStep wb k k' S w w') (hS : ∀ b, S b → base ≤ b ∧ b < w.heap.size ∧ b ≠ wb ∧ some b ≠ lv.ownBlock ∧ ∀ p ∈ ps, ¬ p.own b) : Inv base w' wb lv ps (bookOf k') := by
  have hz := hs.only.size
  have hlo := h.lo
  refine ⟨hs.c0 _ h.cell, ⟨hs.p.c1, hs.p.c2, hs.p.c3⟩, hs.p.room, owns_keep h.owns hs.only ?_, h.lne, h.blo, fun p hp => (h.pairs p hp).only hs.only ?_, ?_, h.apart, ?_, hs.p.ok, bookOf_stable _⟩
  · rintro b hb (e | e | e)
    · exact h.lne (by rw [← hb, e])
    · exact (h.bks b e).2.2.2 hb
    · exact (hS b e).2.2.2.1 hb
  · rintro b hb (e | e | e)
    · exact (h.muts p hp b hb).2.1 e
    · exact (h.muts p hp b hb).2.2.2 e
    · exact (hS b e).2.2.2.2 p hp hb
  · intro p hp b hb
    obtain ⟨m1, m2, m3, m4⟩ := h.muts p hp b hb
    refine ⟨m1, m2, m3, fun hc => ?_⟩
    rcases hs.sub b hc with e | e | e
    · exact m4 e
    · exact (hS b e).2.2.2.2 p hp hb
    · have := (h.pairs p hp).lt b hb; omega
  · intro b hb
    refine ⟨?_, hs.p.ok.lt b hb, fun e => hs.p.nw (e ▸ hb), ?_⟩
    · rcases hs.sub b hb with e | e | e
      · exact (h.bks b e).1
      · exact (hS b e).1
      · omega
    · intro hc
      rcases hs.sub b hb with e | e | e
      · exact (h.bks b e).2.2.2 hc
      · exact (hS b e).2.2.2.1 hc
      · have := (h.owns.lt b hc.symm).2; omega
end
end Go.Proofs.YtndlmgocldckfaaGreat

namespace Go.Proofs.YtndlmgocldckfaaGreat
open Go.RowKit
set_option linter.unusedVariables false
set_option linter.unusedSimpArgs false

/-! A step on a pair: Run. -/

theorem Inv.ran {base : Nat} {wb : Nat} {lv : Value} {ps : List Pair} {bk : BookD} {i : Nat} {p : Pair} {W w2 w3 : World} {ov2 : Value} {s2 : KS} {R' : Nat → Prop} (h : Inv base W wb lv ps bk) (hi : ps[i]? = some p) (ho2 : Only (KSet p.kb p.qb p.mb p.ov) W w2) (hmv : Moved W p.ov ov2) (hk2 : KerP p.kR p.kbs w2 p.kb p.qb p.mb ov2 p.ents p.ks p.draws s2) (ho3 : Only (· = p.rb) w2 w3)
    (hr3 : RefK R' w3 p.rb p.ents p.ks p.draws s2.taken s2.clock s2.next (regL p.ents s2) s2.q) (hR1 : ∀ b, R' b → p.rR b ∨ w2.heap.size ≤ b) (hR2 : ∀ b, R' b → b < w3.heap.size ∧ b ≠ p.rb) (hfit : Fit p.ents p.ks p.draws s2) (hz : RegZ p.ents s2) :
    Inv base w3 wb lv (ps.set i { p with ov := ov2, s := s2, rR := R' }) bk ∧ Only p.has W w3 ∧ (∀ b, W.heap.size ≤ b → b < w2.heap.size → ¬ KSet p.kb p.qb p.mb ov2 b → ∀ q ∈ ps.set i { p with ov := ov2, s := s2, rR := R' }, ¬ q.own b) := by
  have hpm : p ∈ ps := List.mem_of_getElem? hi
  have hO := h.pairs p hpm
  have hz2 := ho2.size
  have hz3 := ho3.size
  have ho23 : Only p.has W w3 := (ho2.mono (S' := p.has) (fun x _ e => .inl e)).trans (ho3.mono (fun x _ e => .inr e))
  have hset : ∀ x, KSet p.kb p.qb p.mb ov2 x → KSet p.kb p.qb p.mb p.ov x ∨ W.heap.size ≤ x := by
    rintro x (hx | hx | hx | hx)
    · exact .inl (.inl hx)
    · exact .inl (.inr (.inl hx))
    · exact .inl (.inr (.inr (.inl hx)))
    · rcases hmv with e | ⟨g, e, hg⟩
      · exact .inl (.inr (.inr (.inr (hx.trans e))))
      · rw [e] at hx; simp at hx; exact .inr (by omega)
  have hklt := hk2.lt
  have hsep' : ¬ KSet p.kb p.qb p.mb ov2 p.rb := fun hc => by
    rcases hset _ hc with hc | hc
    · exact hO.sep hc
    · have := hO.rlt; omega
  have hup : Inv base w3 wb lv (ps.set i { p with ov := ov2, s := s2, rR := R' }) bk := by
    refine h.update hi ho23 rfl rfl ⟨?_, hr3, hfit, hz, hO.kind, hO.draw, by have := hO.kbs; show p.kbs ≤ _; omega, by have := hO.rlt; show p.rb < _; omega, ?_, hO.sepk, hsep'⟩ ?_
    · exact hk2.only ho3 (fun x hx hc => hsep' (hc ▸ hx)) (fun x hx hc => hO.sepk x hx hc)
    · intro x hx
      refine ⟨(hR2 x hx).1, (hR2 x hx).2, fun hc => ?_⟩
      rcases hR1 x hx with hx1 | hx1
      · rcases hset x hc with hc | hc
        · exact (hO.sepr x hx1).2.2 hc
        · have := (hO.sepr x hx1).1; omega
      · have := hklt x hc; omega
    · rintro x ((hx | hx) | hx | hx)
      · rcases hset x hx with hx | hx
        · exact .inl (.inl (.inl hx))
        · exact .inr hx
      · exact .inl (.inl (.inr hx))
      · exact .inl (.inr (.inl hx))
      · rcases hR1 x hx with hx | hx
        · exact .inl (.inr (.inr hx))
        · exact .inr (by omega)
  refine ⟨hup, ho23, ?_⟩
  intro b hb1 hb2 hnk q hq hqo
  obtain ⟨j, hj, hjq⟩ := List.getElem_of_mem hq
  by_cases hji : j = i
  · subst hji
    simp at hjq
    subst hjq
    rcases hqo with (hx | hx) | hx | hx
    · exact hnk hx
    · have := hO.rlt; change b = p.rb at hx; omega
    · have := hO.ker.rlt b hx; omega
    · rcases hR1 b hx with hx | hx
      · have := (hO.sepr b hx).1; omega
      · omega
  · rw [List.getElem_set_ne (Ne.symm hji)] at hjq
    have := (h.pairs q (by rw [← hjq]; exact List.getElem_mem _)).lt b hqo
    omega

/-- How far the book has grown. -/
structure BkLen (n : Nat) (k : BkD) : Prop where
  il : k.il.length ≤ 4000 * n
  i4 : k.il.length % 4 = 0
  rl : k.rl.length ≤ 4 * n
  r4 : k.rl.length % 4 = 0
  bl : k.bl.length ≤ 4 * n
  b4 : k.bl.length % 4 = 0
theorem BkLen.next {n : Nat} {k : BkD} (h : BkLen n k) : BkLen (n + 1) k := ⟨by have := h.il; omega, h.i4, by have := h.rl; omega, h.r4, by have := h.bl; omega, h.b4⟩

set_option maxRecDepth 100000 in
set_option maxHeartbeats 4000000 in
theorem asked_run {base : Nat} (wb : Nat) (lv : Value) (ps : List Pair) (k : BkD) (J : Nat) (i : Nat) (p : Pair) (a b c d ents : Int) (kv l rv qv sv : Value) (w : World) (h : Inv base w wb lv ps (bookOf k)) (hi : ps[i]? = some p) (hG : BkLen J k) (hJ : J ≤ 2000000) :
    Calls Tryz.prog 17 #[.pointer (some ⟨wb, 0, none⟩), .agg #[.pointer (some ⟨p.kb, 0, none⟩), .pointer (some ⟨p.rb, 0, none⟩)], .agg #[.int .i64 4, .int .i64 a, .int .i64 b, .int .i64 c, .int .i64 d, .int .i64 ents, kv, l, rv, qv, sv]] w
      fun e w' => e = .returned (.bool true) ∧ Only (AskS wb ps (bookOf k)) w w' ∧ ∃ ps' k', ps'.length = ps.length ∧ Inv base w' wb lv ps' (bookOf k') ∧ BkLen (J + 1) k' ∧ k'.bl = k.bl := by
  have hpm : p ∈ ps := List.mem_of_getElem? hi
  have hOK := h.pairs p hpm
  obtain ⟨⟨he1, he8⟩, hk1, hk8⟩ := kind_facts hOK.kind
  have hsz := h.lo
  obtain ⟨W, hW⟩ : ∃ W, W = (w.alloc (.cells #[.pointer (some ⟨p.kb, 0, none⟩), .pointer (some ⟨p.rb, 0, none⟩)] 52)).alloc (.cells #[.int .i64 4, .int .i64 a, .int .i64 b, .int .i64 c, .int .i64 d, .int .i64 ents, kv, l, rv, qv, sv] 41) := ⟨_, rfl⟩
  have hb : Below w.heap.size w W := by rw [hW]; exact ((Below.refl _ _).alloc (Nat.le_refl _) _).alloc (by simp) _
  have hWs : W.heap.size = w.heap.size + 1 + 1 := by rw [hW]; simp
  have c1 : W.cell? ⟨w.heap.size, 1, none⟩ = some (.pointer (some ⟨p.rb, 0, none⟩)) := by rw [hW]; simp [go_sem]
  have c2 : W.cell? ⟨w.heap.size + 1, 2, none⟩ = some (.int .i64 b) := by rw [hW]; simp [go_sem]
  have c3 : W.cell? ⟨w.heap.size + 1, 3, none⟩ = some (.int .i64 c) := by rw [hW]; simp [go_sem]
  have HI := hide (h.below hb)
  have HO := hide (HI.out.pairs p hpm)
  have hlt := HO.out.lt
  have Hlt : Hid (∀ b, p.own b → b < w.heap.size) := hOK.lt
  have HB := hide hb
  have HG := hide hG
  have hp := hide h.bkp
  have hwl := h.wlt
  have g1 := hG.il
  have g2 := hG.rl
  clear hOK hb hG hlt
  by_cases hyes : 0 ≤ b ∧ b ≤ 1000
  · obtain ⟨n, rfl⟩ : ∃ n : Nat, b = n := ⟨b.toNat, by omega⟩
    have hn : n ≤ 1000 := by omega
    have hcode := codes_of_kind HO.out.kind
    have hd := draws_of HO.out.draw
    have hdl := draws_facts HO.out.draw
    have hall := runF_all hcode hd c n p.s HO.out.fit
    have hrz := runF_regz hcode hd c n p.s HO.out.fit HO.out.regz
    obtain ⟨s2, rs, why, hF⟩ : ∃ s2 rs why, runF p.ks p.draws c n p.s = (s2, rs, why) := ⟨_, _, _, rfl⟩
    rw [hF] at hall hrz
    simp only at hall hrz
    have HAll := hide hall
    have HRz := hide hrz
    have HRun := hide (run_ok n c W HO.out.ker HO.out.fit.ok he8 hk8 hn HO.out.kbs hcode hd s2 rs why hF)
    have HRef : Hid (∀ w2 : World, RefK p.rR w2 p.rb p.ents p.ks p.draws p.s.taken p.s.clock p.s.next (regL p.ents p.s) p.s.q → W.heap.size ≤ w2.heap.size → Calls Tryz.prog 47 #[.pointer (some ⟨p.rb, 0, none⟩), .int .i64 n, .int .i64 c] w2 fun e w' => ∃ av L R', e = .returned (.tuple #[av, .int .i64 why, .int .i64 0]) ∧ Only (· = p.rb) w2 w' ∧ RefK R' w' p.rb p.ents p.ks p.draws s2.taken s2.clock s2.next (regL p.ents s2) s2.q ∧ (∀ b, R' b → p.rR b ∨ w2.heap.size ≤ b) ∧ (∀ b, R' b → b < w'.heap.size ∧ b ≠ p.rb) ∧ AllR w' w2.heap.size av L rs) := by
      intro w2 hr hz
      exact rrun_any p.rb p.ents p.ks p.draws p.s n c w2 hr (fun b hb => ⟨by have := (HO.out.sepr b hb).1; omega, (HO.out.sepr b hb).2.1⟩) HO.out.fit ⟨he1, he8⟩ hk8 hn hcode hdl hd (s2, rs, why) hF.symm
    clear hall hrz hcode hd hF
    go_enter Tryz.func17, Tryz.ntmps17
    go_wp2_with fail
    rw [← hW]
    refine HRun.out.mono ?_
    rintro e w2 ⟨lv1, ov2, L, rfl, ho2, hmv, hk2, hok2, hout⟩
    have hnk : ∀ x, w.heap.size ≤ x → ¬ KSet p.kb p.qb p.mb p.ov x := fun x hx hc => by have := Hlt.out x (.inl (.inl hc)); omega
    have x1 := ho2.at c1 (hnk _ (by omega))
    have x2 := ho2.at c2 (hnk _ (by omega))
    have x3 := ho2.at c3 (hnk _ (by omega))
    have hz2 := ho2.size
    have Href : Hid (RefK p.rR w2 p.rb p.ents p.ks p.draws p.s.taken p.s.clock p.s.next (regL p.ents p.s) p.s.q) := HO.out.ref.only ho2 (fun x hx hc => (HO.out.sepr x hx).2.2 hc) HO.out.sep
    have hAll2 : AllR w2 W.heap.size lv1 L rs := ⟨hout.len, hout.row, hout.rec_, fun x hx b hb => by
      obtain ⟨j, hj⟩ := List.getElem?_of_mem hx
      exact (hout.tsep j x b hj hb).2⟩
    have HAll2 := hide hAll2
    have Hout := hide hout
    have Hmv := hide hmv
    have Hk2 := hide hk2
    have Ho2 := hide ho2
    have HR2 := hide (HRef.out w2 Href.out hz2)
    obtain ⟨la, lc, rfl⟩ := owns_formK hout.row
    have HLr : Hid (L.length = rs.length) := hout.len
    clear hout hmv hk2 ho2 hAll2 hnk c1 c2 c3 hok2 HRef HRun
    go_wp2_with fail
    refine HR2.out.mono ?_
    rintro e w3 ⟨av, L', R', rfl, ho3, hr3, hR1, hR2, hAll3⟩
    obtain ⟨ma, mc, rfl, hin⟩ := hAll3.recIn
    have hz3 := ho3.size
    obtain ⟨hI3, hO3, hfar⟩ := HI.out.ran hi Ho2.out Hmv.out Hk2.out ho3 hr3 hR1 hR2 HAll.out.fit HRz.out
    have hset : ∀ b, AllSet (.slice la L.length lc) L b → (W.heap.size ≤ b ∧ b < w2.heap.size) ∧ ¬ KSet p.kb p.qb p.mb ov2 b := by
      intro b hb
      refine ⟨HAll2.out.lt b hb, ?_⟩
      rcases hb with hb | ⟨x, hx, hb⟩
      · exact Hout.out.lsep b hb
      · obtain ⟨j, hj⟩ := List.getElem?_of_mem hx
        exact (Hout.out.tsep j x b hj hb).1
    have hAll23 : AllR w3 W.heap.size (.slice la L.length lc) L rs := HAll2.out.only ho3 (fun b hb hc => by have := (hset b hb).1.1; have := HO.out.rlt; omega)
    have hn2 : L.length ≤ 1000 := by have := HAll.out.len; have := HLr.out; omega
    have HRec := hide (records_any wb k la ma L.length lc mc L rs 0 w3 hI3.bkp hAll23 (fun j k x y b hx hy hb hb' => Hout.out.apart j k x y b hx hy hb hb') hin (by omega) hn2 (fun r hr => by have := (HAll.out.each r hr).2.2.2; omega) HG.out.i4 HG.out.r4 (by omega) (by omega) (fun b hb => ⟨fun hc => by have h1 := hp.out.ok.lt b hc; have h2 := (hset b hb).1.1; omega, fun hc => by have h2 := (hset b hb).1.1; omega⟩) (.inl rfl))
    have HI3 := hide hI3
    have HO3 := hide hO3
    have Hfar := hide hfar
    have Hset := hide hset
    rw [← HLr.out]
    clear hI3 hO3 hfar hset hAll23 hr3 hR1 hR2 hAll3 hin ho3 HR2
    go_wp2_with fail
    refine HRec.out.mono ?_
    rintro e w4 ⟨rfl, k', hst, q1, q2, q3, q4⟩
    have hI4 := HI3.out.bookStep hst (fun b hb => by
      obtain ⟨⟨s1, s2⟩, s3⟩ := Hset.out b hb
      refine ⟨by omega, by omega, by omega, fun hc => ?_, Hfar.out b s1 s2 s3⟩
      have := (h.owns.lt b hc.symm).2
      omega)
    have HI4 := hide hI4
    have HBB : Hid (Only (AskS wb ps (bookOf k)) w w4) := by
      have o1 : Only (AskS wb ps (bookOf k)) w w3 := (Only.new HB.out).trans (HO3.out.mono (fun x _ hx => .inl ⟨p, hpm, hx⟩))
      refine o1.chain hst.only ?_
      rintro b hb (hc | hc | hc)
      · exact .inr (.inl hc)
      · exact .inr (.inr hc)
      · have := (Hset.out b hc).1.1; omega
    have HLen : Hid (BkLen (J + 1) k') := ⟨by have := HG.out.il; omega, q2, by have := HG.out.rl; omega, by have := HG.out.r4; omega, by rw [q4]; have := HG.out.bl; omega, by rw [q4]; exact HG.out.b4⟩
    have Hq4 := hide q4
    clear hI4 hst q1 q2 q3 q4 HRec
    go_wp2
    go_ret
    exact ⟨by simp, HBB.out, _, k', by simp, HI4.out, HLen.out, Hq4.out⟩
  · have Hno := hide hyes
    clear hyes
    have HRec := hide (records_any wb k none none 0 0 0 [] [] 1 W HI.out.bkp (AllR.nil W W.heap.size) (fun j k x y b hx => by simp at hx) (fun i r hr => by simp at hr) (Nat.le_refl _) (by omega) (by simp) HG.out.i4 HG.out.r4 (by omega) (by omega) (fun b hb => by rcases hb with hb | ⟨x, hx, _⟩; simp [Value.ownBlock] at hb; simp at hx) (.inr ⟨rfl, rfl, rfl⟩))
    go_enter Tryz.func17, Tryz.ntmps17
    go_wp2_with fail
    rw [← hW]
    have HW := hide hW
    clear hW
    refine (run_arg p.kb b c W Hno.out).mono ?_
    rintro e w2 ⟨rfl, hw2⟩
    rw [hw2]
    clear hw2 w2
    go_wp2_with fail
    refine (rrun_arg p.rb b c W Hno.out).mono ?_
    rintro e w3 ⟨rfl, hw3⟩
    rw [hw3]
    clear hw3 w3
    go_wp2_with fail
    refine HRec.out.mono ?_
    rintro e w4 ⟨rfl, k', hst, q1, q2, q3, q4⟩
    have hno : ∀ b, ¬ AllSet (.slice none 0 0) [] b := by
      intro b hb
      rcases hb with hb | ⟨x, hx, _⟩
      · simp [Value.ownBlock] at hb
      · simp at hx
    have HI4 := hide (HI.out.bookStep hst (fun b hb => absurd hb (hno b)))
    have HBB : Hid (Only (AskS wb ps (bookOf k)) w w4) := by
      refine (Only.new HB.out).chain hst.only ?_
      rintro b hb (hc | hc | hc)
      · exact .inr (.inl hc)
      · exact .inr (.inr hc)
      · exact absurd hc (hno b)
    have HLen : Hid (BkLen (J + 1) k') := ⟨by have := HG.out.il; omega, q2, by have := HG.out.rl; omega, by have := HG.out.r4; omega, by rw [q4]; have := HG.out.bl; omega, by rw [q4]; exact HG.out.b4⟩
    have Hq4 := hide q4
    clear hst q1 q2 q3 q4 HRec hno
    go_wp2
    go_ret
    exact ⟨by simp, HBB.out, _, k', rfl, HI4.out, HLen.out, Hq4.out⟩
end Go.Proofs.YtndlmgocldckfaaGreat

namespace Go.Proofs.YtndlmgocldckfaaGreat
open Go.RowKit
set_option linter.unusedVariables false
set_option linter.unusedSimpArgs false

/-! Runs. -/

set_option maxHeartbeats 1000000 in
theorem apart_nil (wb : Nat) (a : Option Addr) (c : Nat) (w : World) (h1 : w.cell? ⟨wb, 1, none⟩ = some (.slice a 0 c)) :
    Calls Tryz.prog 13 #[.pointer (some ⟨wb, 1, none⟩)] w fun e w' => e = .returned (.bool true) ∧ w' = w := by
  go_enter Tryz.func13, Tryz.ntmps13
  go_wp2
  go_loop [3] (fun i => i = .int .i64 0) (fun _ => 0)
  case atStart => rfl
  case round =>
    obtain rfl := hrel
    go_wp2
    go_ret
    exact ⟨rfl, rfl⟩

/-- A step on a kernel. -/
theorem lw_ask {base : Nat} (wb : Nat) (lv : Value) (ps : List Pair) (k : BkD) (J : Nat) (o : OpD) (w : World) (h : Inv base w wb lv ps (bookOf k)) (ho : OpOK base w o) (hk : o.kind = 3 ∨ o.kind = 4 ∨ o.kind = 5 ∨ o.kind = 6) (hlen : (ps.length + 1) * 16 ≤ 140737488355328) (hG : BkLen J k) (hJ : J ≤ 2000000) :
    Calls Tryz.prog 11 #[.pointer (some ⟨wb, 0, none⟩), .agg #[.int .i64 o.kind, .int .i64 o.a, .int .i64 o.b, .int .i64 o.c, .int .i64 o.d, .int .i64 o.ents, o.kv, o.l, o.rv, o.qv, o.sv]] w
      fun e w' => e = .returned (.bool true) ∧ Below base w w' ∧ ∃ lv' ps' bk', ps'.length ≤ ps.length + 1 ∧ Inv base w' wb lv' ps' bk' ∧ ∃ k', bk' = bookOf k' ∧ BkLen (J + 1) k' ∧ k'.bl = k.bl := by
  by_cases hp : ps = []
  · subst hp
    refine (lw_none wb lv (bookOf k) o w h (by omega)).mono ?_
    rintro e w' ⟨rfl, hB, lv', ps', hl, hI⟩
    exact ⟨rfl, hB, lv', ps', _, hl, hI, k, rfl, hG.next, rfl⟩
  · have hps := List.length_pos_iff.2 hp
    by_cases h4 : o.kind = 4
    · refine lw_askedG wb lv ps (bookOf k) o w h ho (by omega) hps hlen (fun bk => ∃ k', bk = bookOf k' ∧ BkLen (J + 1) k' ∧ k'.bl = k.bl) ?_
      intro W' p hI hp'
      rw [h4]
      refine (asked_run wb lv ps k J _ p o.a o.b o.c o.d o.ents o.kv o.l o.rv o.qv o.sv W' hI hp' hG hJ).mono ?_
      rintro e w' ⟨rfl, ho', ps', k', hl, hi, hb, hbl⟩
      exact ⟨rfl, ho', ps', _, hl, hi, k', rfl, hb, hbl⟩
    · refine (lw_asked wb lv ps (bookOf k) o w h ho (by omega) hps hlen).mono ?_
      rintro e w' ⟨rfl, hB, lv', ps', hl, hI⟩
      exact ⟨rfl, hB, lv', ps', _, hl, hI, k, rfl, hG.next, rfl⟩

theorem lw_looks {base : Nat} {wb : Nat} {lv : Value} {ps : List Pair} {k : BkD} {J : Nat} {w : World} (h : Inv base w wb lv ps (bookOf k)) (hG : BkLen J k) (hJ : J ≤ 2000000) : Calls Tryz.prog 12 #[.pointer (some ⟨wb, 1, none⟩)] w fun e w' => e = .returned (.bool true) ∧ Below w.heap.size w w' :=
  looks_any wb k w h.bkp (by have := hG.bl; omega) (by have := hG.il; omega) (by have := hG.rl; omega)

def playR : List Int := [2, 3, 4, 5, 6]
theorem playR_kind {k : Int} (h : amongF playR k = true) : k = 2 ∨ k = 3 ∨ k = 4 ∨ k = 5 ∨ k = 6 := by
  simpa [amongF, playR] using h
theorem bk0_len : BkLen 0 bk0 := ⟨by simp [bk0], by simp [bk0], by simp [bk0], by simp [bk0], by simp [bk0], by simp [bk0]⟩
theorem playR_ok (lim : Nat) (hlim : lim ≤ 2000000) : PlayOK playR lim (fun j bk => ∃ k, bk = bookOf k ∧ BkLen j k ∧ k.bl = []) := by
  refine ⟨⟨bookOf bk0, ⟨bk0, rfl, bk0_len, rfl⟩, inv_start0⟩, by decide, ?_, ?_, ?_⟩
  · rintro j base wb lv ps bk o w hj h ⟨k, rfl, hG, hbl⟩ ho hk hlen hb0
    have hk' := playR_kind hk
    by_cases h2 : o.kind = 2
    · refine (lw_made wb lv ps (bookOf k) o w h ho (.inr h2) hlen hb0).mono ?_
      rintro e w' ⟨rfl, hB, lv', ps', hl, hI⟩
      exact ⟨rfl, hB, lv', ps', _, hl, hI, k, rfl, hG.next, hbl⟩
    · refine (lw_ask wb lv ps k j o w h ho (by omega) hlen hG (by omega)).mono ?_
      rintro e w' ⟨rfl, hB, lv', ps', bk', hl, hI, k', rfl, hb, hbl'⟩
      exact ⟨rfl, hB, lv', ps', _, hl, hI, k', rfl, hb, hbl'.trans hbl⟩
  · rintro j base wb lv ps bk w hj h ⟨k, rfl, hG, hbl⟩
    exact lw_looks h hG (by omega)
  · rintro j base wb lv ps bk w hj h ⟨k, rfl, hG, hbl⟩
    obtain ⟨a, c, hv⟩ := owns_formK h.bkp.ok.bown
    have hc := h.bkp.c1
    rw [hv, hbl] at hc
    refine (apart_nil wb a c w hc).mono ?_
    rintro e w' ⟨rfl, rfl⟩
    exact ⟨rfl, Below.refl _ _⟩
end Go.Proofs.YtndlmgocldckfaaGreat

namespace Go.Proofs.YtndlmgocldckfaaGreat
open Go.ChangeShapes Go.WideShapes Go.ChangeAt Go.RowKit Go.Deep Go.Joins
set_option linter.unusedVariables false
set_option linter.unusedSimpArgs false

theorem ownS : ownKnob Tryz.prog.godebug = none := by kernel_rfl
theorem laidOutS : laidOutB Tryz.prog = true := by kernel_rfl

/-- The steps are no more than what is read. -/
theorem bulk_one {H : Type} (d : DataW H) : 1 ≤ Rows.uptoBulk d := by
  cases d with
  | lit l => cases l <;> simp [Rows.uptoBulk]
  | nil => simp [Rows.uptoBulk]
  | ptr d => simp [Rows.uptoBulk]
  | slice elems spare => simp [Rows.uptoBulk]
  | agg parts => simp [Rows.uptoBulk]
  | iface t d => simp [Rows.uptoBulk]
  | map entries => simp [Rows.uptoBulk]
  | held h => simp [Rows.uptoBulk]
theorem bulk_len {H : Type} (l : List (DataW H)) : l.length ≤ Rows.uptoBulkAll l := by
  induction l with
  | nil => simp [Rows.uptoBulkAll]
  | cons x r ih => have := bulk_one x; simp only [Rows.uptoBulkAll, List.length_cons]; omega

set_option maxRecDepth 100000 in
theorem script_len {H : Type} {enc : TypeId × Value → H} {w : World} {spare : Nat → Bool} {held : Bool} {n : Nat} {a : Option Addr} {len cap : Nat} {x : DataW H × List MemPlace} (h : DataW.trod enc Tryz.prog w 0 spare held n 22 [.slice a len cap] = some x) (hk : Rows.uptoSmall H [x.1] = true) : len ≤ 1048576 := by
  have hb : Rows.uptoBulkAll [x.1] ≤ 1048576 := of_decide_eq_true hk
  simp only [Rows.uptoBulkAll] at hb
  rcases open_slice Tryz.underlying22 h with ⟨hcs, _⟩ | ⟨a', len', cap', m, k, D, Pl, hcs, _, hlc, hcm, hm, rfl, hel⟩
  · simp at hcs; omega
  · simp at hcs
    obtain ⟨rfl, rfl, rfl⟩ := hcs
    simp only [Rows.uptoBulk] at hb
    have h1 := bulk_len ((List.range len).map D)
    simp only [List.length_map, List.length_range] at h1
    omega

set_option maxRecDepth 100000 in
theorem runs_any (sv : Value) (os : List OpD) (w : World) (hsrc : SrcAt w sv os.length (opsRow os)) (hos : ∀ o ∈ os, OpOK w.heap.size w o) (hone : ∀ u ∈ opsRow os, u.oneCell' = true) (hn : (os.length + 11) * 160 ≤ 140737488355328) (hlen : os.length ≤ 1048576) :
    Calls Tryz.prog 4 #[sv] w fun e w' => e = .returned (.bool true) ∧ Below w.heap.size w w' := by
  obtain ⟨W, hW⟩ : ∃ W, W = w.alloc (.cells #[.int .i64 2, .int .i64 3, .int .i64 4, .int .i64 5, .int .i64 6] 3) := ⟨_, rfl⟩
  have hb : Below w.heap.size w W := by rw [hW]; exact (Below.refl _ _).alloc (Nat.le_refl _) _
  have hz : W.heap.size = w.heap.size + 1 := by rw [hW]; simp
  have hrow : RowAt W w.heap.size 0 (ints playR) := by rw [hW]; exact row_new w _ (ints playR)
  have hsrc1 : SrcAt W sv os.length (opsRow os) := by
    rcases hsrc with h | ⟨b, off, c, h, hr⟩ | h
    · exact .inl h
    · refine .inr (.inl ⟨b, off, c, h, ?_⟩)
      intro j v hv
      have := hr j v hv
      exact below_at hb this (lt_of_cell this)
    · exact .inr (.inr h)
  have key := plays_any playR (os.length + 11) _ (playR_ok _ (by omega)) sv os w.heap.size W hsrc1 (fun o ho => ((hos o ho).below hb).mono (by omega)) hone hn (Nat.le_refl _) hrow (by omega)
  have Key := hide key
  have HW := hide hW
  clear key hsrc hsrc1 hos hone hrow hW
  go_enter Tryz.func4, Tryz.ntmps4
  go_wp2_with fail
  rw [← HW.out]
  refine Key.out.mono ?_
  rintro e w1 ⟨rfl, hb1⟩
  go_wp2
  go_ret
  exact ⟨rfl, hb.trans (hb1.mono (by omega))⟩

set_option maxRecDepth 100000 in
theorem lifted (os : Os) (started : os.Started) (H : Type) (enc : TypeId × Value → H) (F : Stop.Interp) :
    ReturnsInHanded {} Tryz.checked os 4 .any ((Rows.OpenSpec.upto Rows.runsSpec).pre6 enc Tryz.prog Tryz.f4 Rows.runsUptoRow.domain false) (((Rows.OpenSpec.upto Rows.runsSpec).at F).post enc Tryz.prog Tryz.f4 false true false false) := by
  refine returnsInHanded_of_cond_sized (C := Tryz.checked) (s := Rows.OpenSpec.upto Rows.runsSpec) (k := Rows.uptoSmall) rfl ownS started (by kernel_rfl) Tryz.func4
    (OpenSpec.witness (enc := enc) (C := Tryz.checked) (s := Rows.OpenSpec.upto Rows.runsSpec) (k := Rows.uptoSmall) rfl false ⟨#[], #[.slice none 0 0], []⟩ 8 (by kernel_rfl) (by kernel_rfl) (by kernel_rfl)
      (x := ([.nil], [], [])) (by kernel_rfl) rfl (by kernel_rfl)) ?_
  intro W base args ds gs before hval0 hW hcnd hk0 hwt0 _
  have hval : ∀ (j : Nat) t v, Tryz.f4.params[j]? = some t → args[j]? = some v → Value.okWide Tryz.prog W .any base t v := hval0
  have hwt : (DataW.weightsEach Tryz.prog (Tryz.f4.params.toList ++ DataSpec.varTypes Tryz.prog Rows.runsSpec.plain) (ds ++ gs)).all (· ≤ reachBytes) = true := hwt0
  have hW' := hW
  obtain ⟨p, q, hA0, hV, rfl, hfz, hnd⟩ := hW
  have hA : DataW.TrodAll enc Tryz.prog W 0 (fun _ => true) true Tryz.f4.params.toList args.toList ds p := hA0
  rw [Tryz.params4] at hA hval hwt
  obtain ⟨v0, vs0, d0, ds0, p0, q0, hargs, rfl, rfl, h0, r0⟩ := trodAll_cons hA
  obtain ⟨rfl, rfl, rfl⟩ := trodAll_nil r0
  obtain rfl : args = #[v0] := by cases args; simp_all
  obtain ⟨rfl, rfl⟩ := trodVars_none hV
  obtain ⟨a0, len0, cap0, rfl⟩ := okWide_slice Tryz.underlying22 (hval 0 22 v0 rfl rfl)
  have k0 := h0
  have hk1 : Rows.uptoSmall H [d0] = true := hk0
  have lt0 : ∀ x ∈ p0, x.block < W.heap.size := by obtain ⟨m, hm⟩ := k0; exact DataW.trod_lt m _ _ _ hm
  have wok : WOK 22 d0 := by
    intro n hn
    have := List.all_eq_true.1 hwt n (DataW.weights_mem_each (j := 0) rfl rfl n hn)
    simpa using this
  obtain ⟨os, hsrc, hos, hone, hlen, hl⟩ : ∃ os : List OpD, SrcAt W (.slice a0 len0 cap0) os.length (opsRow os) ∧ (∀ o ∈ os, OpOK W.heap.size W o) ∧ (∀ u ∈ opsRow os, u.oneCell' = true) ∧ (os.length + 11) * 160 ≤ 140737488355328 ∧ os.length ≤ 1048576 := by
    obtain ⟨fuel, hf⟩ := h0
    obtain ⟨os, h1, h2, h3, h4⟩ := script_open hf wok
    refine ⟨os, h1, h2, h3, h4, ?_⟩
    have hl := script_len hf hk1
    rcases h1 with ⟨_, h1, _⟩ | ⟨_, _, _, h1, _⟩ | ⟨_, _, h1, _⟩
    · omega
    · simp at h1; omega
    · simp at h1; omega
  clear hA0 hval0 hwt0
  refine (runs_any (.slice a0 len0 cap0) os W hsrc hos hone hlen hl).mono fun e W' ⟨he, bel⟩ => ?_
  subst he
  exact ⟨_, rfl, _, _, _, [], _, [], hW', trodAll_mk1 (shut_bool Tryz.underlying4 _), (trodAll_cons_mk (Below.trod laidOutS (by kernel_rfl) (of_decide_eq_true (by kernel_rfl)) k0 bel lt0) trodAll_mk0), rfl, bel.frame _, fun h => by cases h⟩

theorem runs_upto : Rows.RunsUptoSaid :=
  OpenClaim.holds_of_cond 4 Tryz.f4 rfl rfl rfl rfl rfl rfl rfl ⟨rfl, rfl, rfl, rfl, rfl⟩ rfl rfl rfl rfl rfl (by kernel_rfl) Tryz.func4 (by kernel_rfl)
    (of_decide_eq_true (by kernel_rfl)) (by unfold Func.isWrapper; first | (rw [if_pos (by decide +kernel)]; kernel_rfl) | (rw [if_neg (by decide +kernel)]; exact ⟨rfl, rfl⟩))
    (fun os started H enc _ F => lifted os started H enc F)
end Go.Proofs.YtndlmgocldckfaaGreat
