import Derived.Test.YtndlmgocldckfaaGreatG21
import Derived.Test.YtndlmgocldckfaaGreatG23
import Derived.Test.YtndlmgocldckfaaGreatRfM
import Derived.Test.YtndlmgocldckfaaGreatRunP
import Derived.Test.YtndlmgocldckfaaGreatG16
import Derived.Test.YtndlmgocldckfaaGreatG20
namespace Go.Proofs.YtndlmgocldckfaaGreat
open Go.RowKit
set_option linter.unusedVariables false
set_option linter.unusedSimpArgs false
set_option maxRecDepth 100000
set_option maxHeartbeats 4000000
theorem Inv.ran {base : Nat} {wb : Nat} {lv : Value} {ps : List Pair} {bk : BookD} {i : Nat} {p : Pair} {W w2 w3 : World} {ov2 : Value} {s2 : KS} {R' : Nat → Prop} (h : Inv base W wb lv ps bk) (hi : ps[i]? = some p) (ho2 : Only (KSet p.kb p.qb p.mb p.ov) W w2) (hmv : Moved W p.ov ov2) (hk2 : KerP p.kR p.kbs w2 p.kb p.qb p.mb ov2 p.ents p.ks p.draws s2) (ho3 : Only (· = p.rb) w2 w3)
  (hr3 : RefK R' w3 p.rb p.ents p.ks p.draws s2.taken s2.clock s2.next (regL p.ents s2) s2.q) (hR1 : ∀ b, R' b → p.rR b ∨ w2.heap.size ≤ b) (hR2 : ∀ b, R' b → b < w3.heap.size ∧ b ≠ p.rb) (hfit : Fit p.ents p.ks p.draws s2) (hz : RegZ p.ents s2) :
  Inv base w3 wb lv (ps.set i { p with ov := ov2, s := s2, rR := R' }) bk ∧ Only p.has W w3 ∧ (∀ b, W.heap.size ≤ b → b < w2.heap.size → ¬ KSet p.kb p.qb p.mb ov2 b → ∀ q ∈ ps.set i { p with ov := ov2, s := s2, rR := R' }, ¬ q.own b) := by
 have hpm : p ∈ ps := List.mem_of_getElem? hi
 have hO := h.pairs p hpm
 have hz2 := ho2.size
 have hz3 := ho3.size
 have ho23 : Only p.has W w3 := (ho2.mono (S' := p.has) (fun x _ e => .inl e)).trans (ho3.mono (fun x _ e => .inr e))
 have hset : ∀ x, KSet p.kb p.qb p.mb ov2 x → KSet p.kb p.qb p.mb p.ov x ∨ W.heap.size ≤ x := by
  rintro x (hx | hx | hx | hx)
  ·exact .inl (.inl hx)
  ·exact .inl (.inr (.inl hx))
  ·exact .inl (.inr (.inr (.inl hx)))
  ·rcases hmv with e | ⟨g, e, hg⟩
   ·exact .inl (.inr (.inr (.inr (hx.trans e))))
   ·rw [e] at hx; simp at hx; exact .inr (by omega)
 have hklt := hk2.lt
 have hsep' : ¬ KSet p.kb p.qb p.mb ov2 p.rb := fun hc => by
  rcases hset _ hc with hc | hc
  ·exact hO.sep hc
  ·have := hO.rlt; omega
 have hup : Inv base w3 wb lv (ps.set i { p with ov := ov2, s := s2, rR := R' }) bk := by
  refine h.update hi ho23 rfl rfl ⟨?_, hr3, hfit, hz, hO.kind, hO.draw, by have := hO.kbs; show p.kbs ≤ _; omega, by have := hO.rlt; show p.rb < _; omega, ?_, hO.sepk, hsep'⟩ ?_
  ·exact hk2.only ho3 (fun x hx hc => hsep' (hc ▸ hx)) (fun x hx hc => hO.sepk x hx hc)
  ·intro x hx
   refine ⟨(hR2 x hx).1, (hR2 x hx).2, fun hc => ?_⟩
   rcases hR1 x hx with hx1 | hx1
   ·rcases hset x hc with hc | hc
    ·exact (hO.sepr x hx1).2.2 hc
    ·have := (hO.sepr x hx1).1; omega
   ·have := hklt x hc; omega
  ·rintro x ((hx | hx) | hx | hx)
   ·rcases hset x hx with hx | hx
    ·exact .inl (.inl (.inl hx))
    ·exact .inr hx
   ·exact .inl (.inl (.inr hx))
   ·exact .inl (.inr (.inl hx))
   ·rcases hR1 x hx with hx | hx
    ·exact .inl (.inr (.inr hx))
    ·exact .inr (by omega)
 refine ⟨hup, ho23, ?_⟩
 intro b hb1 hb2 hnk q hq hqo
 obtain ⟨j, hj, hjq⟩ := List.getElem_of_mem hq
 by_cases hji : j = i
 ·subst hji
  simp at hjq
  subst hjq
  rcases hqo with (hx | hx) | hx | hx
  ·exact hnk hx
  ·have := hO.rlt; change b = p.rb at hx; omega
  ·have := hO.ker.rlt b hx; omega
  ·rcases hR1 b hx with hx | hx
   ·have := (hO.sepr b hx).1; omega
   ·omega
 ·rw [List.getElem_set_ne (Ne.symm hji)] at hjq
  have := (h.pairs q (by rw [← hjq]; exact List.getElem_mem _)).lt b hqo
  omega
structure BkLen (n : Nat) (k : BkD) : Prop where
 il : k.il.length ≤ 4000 * n
 i4 : k.il.length % 4 = 0
 rl : k.rl.length ≤ 4 * n
 r4 : k.rl.length % 4 = 0
 bl : k.bl.length ≤ 4 * n
 b4 : k.bl.length % 4 = 0
theorem BkLen.next {n : Nat} {k : BkD} (h : BkLen n k) : BkLen (n + 1) k := ⟨by have := h.il; omega, h.i4, by have := h.rl; omega, h.r4, by have := h.bl; omega, h.b4⟩
theorem asked_run {base : Nat} (wb : Nat) (lv : Value) (ps : List Pair) (k : BkD) (J : Nat) (i : Nat) (p : Pair) (a b c d ents : Int) (kv l rv qv sv : Value) (w : World) (h : Inv base w wb lv ps (bookOf k)) (hi : ps[i]? = some p) (hG : BkLen J k) (hJ : J ≤ 2000000) :
  Calls Tryz.prog 17 #[.pointer (some ⟨wb, 0, none⟩), .agg #[.pointer (some ⟨p.kb, 0, none⟩), .pointer (some ⟨p.rb, 0, none⟩)], .agg #[.int .i64 4, .int .i64 a, .int .i64 b, .int .i64 c, .int .i64 d, .int .i64 ents, kv, l, rv, qv, sv]] w
   fun e w' => e = .returned (.bool true) ∧ Only (AskS wb ps (bookOf k)) w w' ∧ ∃ ps' k', ps'.length = ps.length ∧ Inv base w' wb lv ps' (bookOf k') ∧ BkLen (J + 1) k' ∧ k'.bl = k.bl := by
 have hpm : p ∈ ps := List.mem_of_getElem? hi
 have hOK := h.pairs p hpm
 obtain ⟨⟨he1, he8⟩, hk1, hk8⟩ := kind_facts hOK.kind
 have hsz := h.lo
 obtain ⟨W, hW⟩ : ∃ W, W = (w.alloc (.cells #[.pointer (some ⟨p.kb, 0, none⟩), .pointer (some ⟨p.rb, 0, none⟩)] 52)).alloc (.cells #[.int .i64 4, .int .i64 a, .int .i64 b, .int .i64 c, .int .i64 d, .int .i64 ents, kv, l, rv, qv, sv] 41) := ⟨_, rfl⟩
 have hb : Below w.heap.size w W := by rw [hW]; exact ((Below.refl _ _).alloc (Nat.le_refl _) _).alloc (by simp) _
 have hWs : W.heap.size = w.heap.size + 1 + 1 := by rw [hW]; simp
 have c1 : W.cell? ⟨w.heap.size, 1, none⟩ = some (.pointer (some ⟨p.rb, 0, none⟩)) := by rw [hW]; simp [go_sem]
 have c2 : W.cell? ⟨w.heap.size + 1, 2, none⟩ = some (.int .i64 b) := by rw [hW]; simp [go_sem]
 have c3 : W.cell? ⟨w.heap.size + 1, 3, none⟩ = some (.int .i64 c) := by rw [hW]; simp [go_sem]
 have HI := hide (h.below hb)
 have HO := hide (HI.out.pairs p hpm)
 have hlt := HO.out.lt
 have Hlt : Hid (∀ b, p.own b → b < w.heap.size) := hOK.lt
 have HB := hide hb
 have HG := hide hG
 have hp := hide h.bkp
 have hwl := h.wlt
 have g1 := hG.il
 have g2 := hG.rl
 clear hOK hb hG hlt
 by_cases hyes : 0 ≤ b ∧ b ≤ 1000
 ·obtain ⟨n, rfl⟩ : ∃ n : Nat, b = n := ⟨b.toNat, by omega⟩
  have hn : n ≤ 1000 := by omega
  have hcode := codes_of_kind HO.out.kind
  have hd := draws_of HO.out.draw
  have hdl := draws_facts HO.out.draw
  have hall := runF_all hcode hd c n p.s HO.out.fit
  have hrz := runF_regz hcode hd c n p.s HO.out.fit HO.out.regz
  obtain ⟨s2, rs, why, hF⟩ : ∃ s2 rs why, runF p.ks p.draws c n p.s = (s2, rs, why) := ⟨_, _, _, rfl⟩
  rw [hF] at hall hrz
  simp only at hall hrz
  have HAll := hide hall
  have HRz := hide hrz
  have HRun := hide (run_ok n c W HO.out.ker HO.out.fit.ok he8 hk8 hn HO.out.kbs hcode hd s2 rs why hF)
  have HRef : Hid (∀ w2 : World, RefK p.rR w2 p.rb p.ents p.ks p.draws p.s.taken p.s.clock p.s.next (regL p.ents p.s) p.s.q → W.heap.size ≤ w2.heap.size → Calls Tryz.prog 47 #[.pointer (some ⟨p.rb, 0, none⟩), .int .i64 n, .int .i64 c] w2 fun e w' => ∃ av L R', e = .returned (.tuple #[av, .int .i64 why, .int .i64 0]) ∧ Only (· = p.rb) w2 w' ∧ RefK R' w' p.rb p.ents p.ks p.draws s2.taken s2.clock s2.next (regL p.ents s2) s2.q ∧ (∀ b, R' b → p.rR b ∨ w2.heap.size ≤ b) ∧ (∀ b, R' b → b < w'.heap.size ∧ b ≠ p.rb) ∧ AllR w' w2.heap.size av L rs) := by
   intro w2 hr hz
   exact rrun_any p.rb p.ents p.ks p.draws p.s n c w2 hr (fun b hb => ⟨by have := (HO.out.sepr b hb).1; omega, (HO.out.sepr b hb).2.1⟩) HO.out.fit ⟨he1, he8⟩ hk8 hn hcode hdl hd (s2, rs, why) hF.symm
  clear hall hrz hcode hd hF
  go_enter Tryz.func17, Tryz.ntmps17
  go_wp2_with fail
  rw [← hW]
  refine HRun.out.mono ?_
  rintro e w2 ⟨lv1, ov2, L, rfl, ho2, hmv, hk2, hok2, hout⟩
  have hnk : ∀ x, w.heap.size ≤ x → ¬ KSet p.kb p.qb p.mb p.ov x := fun x hx hc => by have := Hlt.out x (.inl (.inl hc)); omega
  have x1 := ho2.at c1 (hnk _ (by omega))
  have x2 := ho2.at c2 (hnk _ (by omega))
  have x3 := ho2.at c3 (hnk _ (by omega))
  have hz2 := ho2.size
  have Href : Hid (RefK p.rR w2 p.rb p.ents p.ks p.draws p.s.taken p.s.clock p.s.next (regL p.ents p.s) p.s.q) := HO.out.ref.only ho2 (fun x hx hc => (HO.out.sepr x hx).2.2 hc) HO.out.sep
  have hAll2 : AllR w2 W.heap.size lv1 L rs := ⟨hout.len, hout.row, hout.rec_, fun x hx b hb => by
   obtain ⟨j, hj⟩ := List.getElem?_of_mem hx
   exact (hout.tsep j x b hj hb).2⟩
  have HAll2 := hide hAll2
  have Hout := hide hout
  have Hmv := hide hmv
  have Hk2 := hide hk2
  have Ho2 := hide ho2
  have HR2 := hide (HRef.out w2 Href.out hz2)
  obtain ⟨la, lc, rfl⟩ := owns_formK hout.row
  have HLr : Hid (L.length = rs.length) := hout.len
  clear hout hmv hk2 ho2 hAll2 hnk c1 c2 c3 hok2 HRef HRun
  go_wp2_with fail
  refine HR2.out.mono ?_
  rintro e w3 ⟨av, L', R', rfl, ho3, hr3, hR1, hR2, hAll3⟩
  obtain ⟨ma, mc, rfl, hin⟩ := hAll3.recIn
  have hz3 := ho3.size
  obtain ⟨hI3, hO3, hfar⟩ := HI.out.ran hi Ho2.out Hmv.out Hk2.out ho3 hr3 hR1 hR2 HAll.out.fit HRz.out
  have hset : ∀ b, AllSet (.slice la L.length lc) L b → (W.heap.size ≤ b ∧ b < w2.heap.size) ∧ ¬ KSet p.kb p.qb p.mb ov2 b := by
   intro b hb
   refine ⟨HAll2.out.lt b hb, ?_⟩
   rcases hb with hb | ⟨x, hx, hb⟩
   ·exact Hout.out.lsep b hb
   ·obtain ⟨j, hj⟩ := List.getElem?_of_mem hx
    exact (Hout.out.tsep j x b hj hb).1
  have hAll23 : AllR w3 W.heap.size (.slice la L.length lc) L rs := HAll2.out.only ho3 (fun b hb hc => by have := (hset b hb).1.1; have := HO.out.rlt; omega)
  have hn2 : L.length ≤ 1000 := by have := HAll.out.len; have := HLr.out; omega
  have HRec := hide (records_any wb k la ma L.length lc mc L rs 0 w3 hI3.bkp hAll23 (fun j k x y b hx hy hb hb' => Hout.out.apart j k x y b hx hy hb hb') hin (by omega) hn2 (fun r hr => by have := (HAll.out.each r hr).2.2.2; omega) HG.out.i4 HG.out.r4 (by omega) (by omega) (fun b hb => ⟨fun hc => by have h1 := hp.out.ok.lt b hc; have h2 := (hset b hb).1.1; omega, fun hc => by have h2 := (hset b hb).1.1; omega⟩) (.inl rfl))
  have HI3 := hide hI3
  have HO3 := hide hO3
  have Hfar := hide hfar
  have Hset := hide hset
  rw [← HLr.out]
  clear hI3 hO3 hfar hset hAll23 hr3 hR1 hR2 hAll3 hin ho3 HR2
  go_wp2_with fail
  refine HRec.out.mono ?_
  rintro e w4 ⟨rfl, k', hst, q1, q2, q3, q4⟩
  have hI4 := HI3.out.bookStep hst (fun b hb => by
   obtain ⟨⟨s1, s2⟩, s3⟩ := Hset.out b hb
   refine ⟨by omega, by omega, by omega, fun hc => ?_, Hfar.out b s1 s2 s3⟩
   have := (h.owns.lt b hc.symm).2
   omega)
  have HI4 := hide hI4
  have HBB : Hid (Only (AskS wb ps (bookOf k)) w w4) := by
   have o1 : Only (AskS wb ps (bookOf k)) w w3 := (Only.new HB.out).trans (HO3.out.mono (fun x _ hx => .inl ⟨p, hpm, hx⟩))
   refine o1.chain hst.only ?_
   rintro b hb (hc | hc | hc)
   ·exact .inr (.inl hc)
   ·exact .inr (.inr hc)
   ·have := (Hset.out b hc).1.1; omega
  have HLen : Hid (BkLen (J + 1) k') := ⟨by have := HG.out.il; omega, q2, by have := HG.out.rl; omega, by have := HG.out.r4; omega, by rw [q4]; have := HG.out.bl; omega, by rw [q4]; exact HG.out.b4⟩
  have Hq4 := hide q4
  clear hI4 hst q1 q2 q3 q4 HRec
  go_wp2
  go_ret
  exact ⟨by simp, HBB.out, _, k', by simp, HI4.out, HLen.out, Hq4.out⟩
 ·have Hno := hide hyes
  clear hyes
  have HRec := hide (records_any wb k none none 0 0 0 [] [] 1 W HI.out.bkp (AllR.nil W W.heap.size) (fun j k x y b hx => by simp at hx) (fun i r hr => by simp at hr) (Nat.le_refl _) (by omega) (by simp) HG.out.i4 HG.out.r4 (by omega) (by omega) (fun b hb => by rcases hb with hb | ⟨x, hx, _⟩; simp [Value.ownBlock] at hb; simp at hx) (.inr ⟨rfl, rfl, rfl⟩))
  go_enter Tryz.func17, Tryz.ntmps17
  go_wp2_with fail
  rw [← hW]
  have HW := hide hW
  clear hW
  refine (run_arg p.kb b c W Hno.out).mono ?_
  rintro e w2 ⟨rfl, hw2⟩
  rw [hw2]
  clear hw2 w2
  go_wp2_with fail
  refine (rrun_arg p.rb b c W Hno.out).mono ?_
  rintro e w3 ⟨rfl, hw3⟩
  rw [hw3]
  clear hw3 w3
  go_wp2_with fail
  refine HRec.out.mono ?_
  rintro e w4 ⟨rfl, k', hst, q1, q2, q3, q4⟩
  have hno : ∀ b, ¬ AllSet (.slice none 0 0) [] b := by
   intro b hb
   rcases hb with hb | ⟨x, hx, _⟩
   ·simp [Value.ownBlock] at hb
   ·simp at hx
  have HI4 := hide (HI.out.bookStep hst (fun b hb => absurd hb (hno b)))
  have HBB : Hid (Only (AskS wb ps (bookOf k)) w w4) := by
   refine (Only.new HB.out).chain hst.only ?_
   rintro b hb (hc | hc | hc)
   ·exact .inr (.inl hc)
   ·exact .inr (.inr hc)
   ·exact absurd hc (hno b)
  have HLen : Hid (BkLen (J + 1) k') := ⟨by have := HG.out.il; omega, q2, by have := HG.out.rl; omega, by have := HG.out.r4; omega, by rw [q4]; have := HG.out.bl; omega, by rw [q4]; exact HG.out.b4⟩
  have Hq4 := hide q4
  clear hst q1 q2 q3 q4 HRec hno
  go_wp2
  go_ret
  exact ⟨by simp, HBB.out, _, k', rfl, HI4.out, HLen.out, Hq4.out⟩
def ownKs : List (List Ins) := [[⟨2, 0, 1, 0⟩, ⟨8, 0, 0, 0⟩, ⟨6, 0, 0, 2⟩], [⟨1, 1, 5, 0⟩, ⟨4, 2, 4, 0⟩, ⟨6, 0, 0, 2⟩, ⟨5, 3, 1, 0⟩, ⟨7, 3, 0, 0⟩, ⟨6, 0, 0, 1⟩]]
theorem rowAt_alloc (W : World) (cs : List Value) (T : TypeId) : RowAt (W.alloc (.cells cs.toArray T)) W.heap.size 0 cs := by
 intro j v hv
 rw [Nat.zero_add, World.cell?_alloc_at _ _ _ _ rfl]
 simpa using hv
theorem kinds_laid (W : World) (T1 T2 : TypeId) : KindsIn (fun b => W.heap.size ≤ b ∧ b < W.heap.size + 3) (((W.alloc (.cells (flat ownKs[0]).toArray T1)).alloc (.cells (flat ownKs[1]).toArray T1)).alloc (.cells #[.slice (some ⟨W.heap.size, 0, none⟩) 3 3, .slice (some ⟨W.heap.size + 1, 0, none⟩) 6 6] T2)) (.slice (some ⟨W.heap.size + 1 + 1, 0, none⟩) 2 2) ownKs := by
 obtain ⟨W1, hW1⟩ : ∃ W1, W1 = W.alloc (.cells (flat ownKs[0]).toArray T1) := ⟨_, rfl⟩
 obtain ⟨W2, hW2⟩ : ∃ W2, W2 = W1.alloc (.cells (flat ownKs[1]).toArray T1) := ⟨_, rfl⟩
 obtain ⟨W3, hW3⟩ : ∃ W3, W3 = W2.alloc (.cells #[.slice (some ⟨W.heap.size, 0, none⟩) 3 3, .slice (some ⟨W.heap.size + 1, 0, none⟩) 6 6] T2) := ⟨_, rfl⟩
 have s1 : W1.heap.size = W.heap.size + 1 := by rw [hW1]; simp
 have s2 : W2.heap.size = W.heap.size + 1 + 1 := by rw [hW2]; simp [s1]
 have b2 : Below W1.heap.size W1 W2 := by rw [hW2]; exact (Below.refl _ _).alloc (Nat.le_refl _) _
 have b3 : Below W2.heap.size W2 W3 := by rw [hW3]; exact (Below.refl _ _).alloc (Nat.le_refl _) _
 have r0 : CodeAt W3 W.heap.size 0 ownKs[0] := by
  have := rowAt_alloc W (flat ownKs[0]) T1
  rw [← hW1] at this
  exact (this.code.below b2 (by omega)).below b3 (by omega)
 have r1 : CodeAt W3 (W.heap.size + 1) 0 ownKs[1] := by
  have := rowAt_alloc W1 (flat ownKs[1]) T1
  rw [← hW2, s1] at this
  exact this.code.below b3 (by omega)
 have rk := rowAt_alloc W2 [.slice (some ⟨W.heap.size, 0, none⟩) 3 3, .slice (some ⟨W.heap.size + 1, 0, none⟩) 6 6] T2
 rw [s2] at rk
 rw [← hW1, ← hW2, ← hW3]
 refine ⟨by decide, .inr ⟨W.heap.size + 1 + 1, 0, 2, rfl, by omega, ?_⟩⟩
 intro i l hl
 have hi : i < 2 := by simpa [ownKs] using (List.getElem?_eq_some_iff.1 hl).1
 have : i = 0 ∨ i = 1 := by omega
 rcases this with rfl | rfl
 ·have : l = ownKs[0] := by simpa [ownKs] using hl.symm
  subst this
  exact ⟨.slice (some ⟨W.heap.size, 0, none⟩) 3 3, by rw [hW3]; exact rk 0 _ rfl, by simp [ownKs], .inr ⟨W.heap.size, 0, 3, rfl, by omega, r0⟩⟩
 ·have : l = ownKs[1] := by simpa [ownKs] using hl.symm
  subst this
  exact ⟨.slice (some ⟨W.heap.size + 1, 0, none⟩) 6 6, by rw [hW3]; exact rk 1 _ rfl, by simp [ownKs], .inr ⟨W.heap.size + 1, 0, 6, rfl, by omega, r1⟩⟩
theorem own_any (w : World) : Calls Tryz.prog 14 #[] w fun e w' => ∃ sa sc, e = .returned (.agg #[.int .i64 2, .slice sa 2 sc]) ∧ Below w.heap.size w w' ∧ KindsIn (fun b => w.heap.size ≤ b ∧ b < w'.heap.size) w' (.slice sa 2 sc) ownKs := by
 go_enter Tryz.func14, Tryz.ntmps14
 go_wp2
 obtain ⟨W, hW⟩ : ∃ W, W = w.alloc (.cells #[.int .i64 2, .slice (some ⟨w.heap.size + 1 + 1 + 1, 0, none⟩) 2 2] 38) := ⟨_, rfl⟩
 have hWs : W.heap.size = w.heap.size + 1 := by rw [hW]; simp
 have hk := kinds_laid W 59 60
 have e0 : (flat ownKs[0]).toArray = #[.int .i64 2, .int .i64 0, .int .i64 1, .int .i64 0, .int .i64 8, .int .i64 0, .int .i64 0, .int .i64 0, .int .i64 6, .int .i64 0, .int .i64 0, .int .i64 2] := rfl
 have e1 : (flat ownKs[1]).toArray = #[.int .i64 1, .int .i64 1, .int .i64 5, .int .i64 0, .int .i64 4, .int .i64 2, .int .i64 4, .int .i64 0, .int .i64 6, .int .i64 0, .int .i64 0, .int .i64 2, .int .i64 5, .int .i64 3, .int .i64 1, .int .i64 0, .int .i64 7, .int .i64 3, .int .i64 0, .int .i64 0, .int .i64 6, .int .i64 0, .int .i64 0, .int .i64 1] := rfl
 rw [e0, e1, hWs] at hk
 rw [← hW]
 refine bodyPost_ret (v := .agg #[.int .i64 2, .slice (some ⟨w.heap.size + 1 + 1 + 1, 0, none⟩) 2 2]) (by rw [hW]; simp [results, Tryz.results14, go_sem]) rfl ⟨_, _, rfl, ?_, hk.mono ?_⟩
 ·have hb0 : Below w.heap.size w W := by rw [hW]; exact (Below.refl _ _).alloc (Nat.le_refl _) _
  exact ((hb0.alloc (by omega) _).alloc (by simp; omega) _).alloc (by simp; omega) _
 ·intro b hb
  simp [hWs]
  omega
def mkOp (kind a b c d ents : Int) (kv l rv qv sv : Value) (ks : List (List Ins)) (draws : List Int) : OpD := ⟨kind, a, b, c, d, ents, kv, l, rv, qv, sv, ks, draws⟩
def noS : Value := .slice none 0 0
def noT : Value := .string ⟨#[]⟩
def firstOps (k1 k2 dv r : Value) : List OpD :=
 [mkOp 1 0 0 0 0 2 k1 noS noS noS noT ownKs [], mkOp 2 0 0 0 0 2 k2 dv noS noS noT ownKs [7, 9], mkOp 3 0 10 1 0 0 noS noS noS noS noT [] [], mkOp 4 0 3 100 0 0 noS noS noS noS noT [] [], mkOp 5 0 0 0 0 0 noS noS noS noS noT [] [],
  mkOp 6 0 0 2 0 0 noS noS noS noS noT [] [], mkOp 7 0 0 0 0 0 noS noS noS noS noT [] [], mkOp 9 0 0 0 0 0 noS noS noS noS noT [] [], mkOp 10 0 0 0 0 0 noS noS r noS noT [] [], mkOp 11 0 0 0 0 0 noS noS noS noS (.string ⟨#[84, 77, 82, 1, 0]⟩) [] [],
  mkOp 12 0 0 0 0 0 noS noS r noS noT [] []]
def opsRow (os : List OpD) : List Value := os.flatMap opCells
theorem opsRow_one (os : List OpD) (h : ∀ o ∈ os, o.kv.oneCell' = true ∧ o.l.oneCell' = true ∧ o.rv.oneCell' = true ∧ o.qv.oneCell' = true ∧ o.sv.oneCell' = true) : ∀ u ∈ opsRow os, u.oneCell' = true := by
 intro u hu
 obtain ⟨o, ho, hu⟩ := List.mem_flatMap.1 hu
 obtain ⟨h1, h2, h3, h4, h5⟩ := h o ho
 simp only [opCells, List.mem_cons, List.not_mem_nil, or_false] at hu
 rcases hu with rfl | rfl | rfl | rfl | rfl | rfl | rfl | rfl | rfl | rfl | rfl
 ·rfl
 ·rfl
 ·rfl
 ·rfl
 ·rfl
 ·rfl
 ·exact h1
 ·exact h2
 ·exact h3
 ·exact h4
 ·exact h5
theorem noKinds (B : Nat) (W : World) : KindsV B W noS [] := ⟨by simp, .inl ⟨rfl, rfl⟩⟩
theorem noDraws (B : Nat) (W : World) : IntsX B W noS [] := .inl ⟨by simp, .inl ⟨rfl, rfl⟩⟩
theorem first_ok {w1 w2 : World} {lo1 lo2 : Nat} {k1 k2 r : Value} (hr : ∃ a n c, r = .slice a n c) (hz2 : w1.heap.size ≤ w2.heap.size) (hk1 : KindsIn (fun b => lo1 ≤ b ∧ b < w1.heap.size) w2 k1 ownKs) (hk2 : KindsIn (fun b => lo2 ≤ b ∧ b < w2.heap.size) w2 k2 ownKs) (o : Obj) :
  ∀ x ∈ firstOps k1 k2 (.slice (some ⟨w2.heap.size, 0, none⟩) 2 2) r, OpOK (w2.heap.size + 1) ((w2.alloc (.cells #[.int .i64 7, .int .i64 9] 3)).alloc o) x := by
 have hb := (Below.refl w2.heap.size w2).alloc (Nat.le_refl _) (.cells #[.int .i64 7, .int .i64 9] 3)
 have hb' := (Below.refl (w2.heap.size + 1) (w2.alloc (.cells #[.int .i64 7, .int .i64 9] 3))).alloc (by simp) o
 have hbb := hb.trans (hb'.mono (by omega))
 have n := noKinds (w2.heap.size + 1) ((w2.alloc (.cells #[.int .i64 7, .int .i64 9] 3)).alloc o)
 have m := noDraws (w2.heap.size + 1) ((w2.alloc (.cells #[.int .i64 7, .int .i64 9] 3)).alloc o)
 have a1 := (hk1.only (Only.new (S := fun _ => False) hbb) (by simp)).toV (B := w2.heap.size + 1) (by intro b hb; omega)
 have a2 := (hk2.only (Only.new (S := fun _ => False) hbb) (by simp)).toV (B := w2.heap.size + 1) (by intro b hb; omega)
 have d2 : IntsX (w2.heap.size + 1) ((w2.alloc (.cells #[.int .i64 7, .int .i64 9] 3)).alloc o) (.slice (some ⟨w2.heap.size, 0, none⟩) 2 2) [7, 9] := by
  refine .inl ⟨by simp, .inr ⟨w2.heap.size, 0, 2, rfl, by omega, ?_⟩⟩
  exact (rowAt_alloc w2 [.int .i64 7, .int .i64 9] 3).below hb' (by omega)
 intro x hx
 simp only [firstOps, List.mem_cons, List.not_mem_nil, or_false] at hx
 rcases hx with rfl | rfl | rfl | rfl | rfl | rfl | rfl | rfl | rfl | rfl | rfl
 ·exact ⟨a1, m, by simp [mkOp], by simp [mkOp], ⟨_, _, _, rfl⟩, ⟨_, _, _, rfl⟩, ⟨_, rfl⟩⟩
 ·exact ⟨a2, d2, by simp [mkOp], by simp [mkOp], ⟨_, _, _, rfl⟩, ⟨_, _, _, rfl⟩, ⟨_, rfl⟩⟩
 all_goals first | exact ⟨n, m, by simp [mkOp], by simp [mkOp], ⟨_, _, _, rfl⟩, ⟨_, _, _, rfl⟩, ⟨_, rfl⟩⟩ | exact ⟨n, m, by simp [mkOp], by simp [mkOp], hr, ⟨_, _, _, rfl⟩, ⟨_, rfl⟩⟩
def FirstR (g : Nat) (w : World) (r : Value) : Prop :=
 ∃ rb tb, r = .slice (some ⟨rb, 0, none⟩) 1 1 ∧ rb < g ∧ tb < g ∧ RowAt w rb 0 [.int .i64 1, .int .i64 10, .int .i64 1, .int .i64 0, .slice (some ⟨tb, 0, none⟩) 1 1] ∧ RowAt w tb 0 [.int .i64 (-3)]
theorem first_rec (w : World) : FirstR (w.heap.size + 1 + 1) ((w.alloc (.cells #[.int .i64 (-3)] 3)).alloc (.cells #[.int .i64 1, .int .i64 10, .int .i64 1, .int .i64 0, .slice (some ⟨w.heap.size, 0, none⟩) 1 1] 46)) (.slice (some ⟨w.heap.size + 1, 0, none⟩) 1 1) := by
 have h1 := rowAt_alloc w [.int .i64 (-3)] 3
 have h2 := rowAt_alloc (w.alloc (.cells #[.int .i64 (-3)] 3)) [.int .i64 1, .int .i64 10, .int .i64 1, .int .i64 0, .slice (some ⟨w.heap.size, 0, none⟩) 1 1] 46
 rw [World.size_alloc] at h2
 have hb := (Below.refl (w.heap.size + 1) (w.alloc (.cells #[.int .i64 (-3)] 3))).alloc (by simp) (.cells #[.int .i64 1, .int .i64 10, .int .i64 1, .int .i64 0, .slice (some ⟨w.heap.size, 0, none⟩) 1 1] 46)
 exact ⟨_, _, rfl, by omega, by omega, h2, h1.below hb (by omega)⟩
theorem FirstR.below {g : Nat} {w w' : World} {r : Value} (h : FirstR g w r) (hb : Below g w w') : FirstR g w' r := by
 obtain ⟨rb, tb, rfl, h1, h2, h3, h4⟩ := h
 exact ⟨rb, tb, rfl, h1, h2, h3.below hb h1, h4.below hb h2⟩
theorem FirstR.mono {g g' : Nat} {w : World} {r : Value} (h : FirstR g w r) (hg : g ≤ g') : FirstR g' w r := by
 obtain ⟨rb, tb, rfl, h1, h2, h3, h4⟩ := h
 exact ⟨rb, tb, rfl, by omega, by omega, h3, h4⟩
theorem first_any (w : World) : Calls Tryz.prog 9 #[] w fun e w' => ∃ g os, e = .returned (.slice (some ⟨g, 0, none⟩) 11 11) ∧ Below w.heap.size w w' ∧ w.heap.size ≤ g ∧ os.length = 11 ∧
  (∃ cur, w'.heap[g]? = some (.cells cur 41 (0, 0)) ∧ cur.toList = opsRow os) ∧ g < w'.heap.size ∧ (∀ o ∈ os, OpOK g w' o) ∧ (∀ u ∈ opsRow os, u.oneCell' = true) ∧ ∃ k1 k2 dv r, os = firstOps k1 k2 dv r ∧ FirstR g w' r := by
 have HF := hide (first_rec w)
 go_enter Tryz.func9, Tryz.ntmps9
 go_wp2_with fail
 refine (own_any _).mono ?_
 rintro e w1 ⟨sa1, sc1, rfl, hb1, hk1⟩
 go_wp2_with fail
 refine (own_any _).mono ?_
 rintro e w2 ⟨sa2, sc2, rfl, hb2, hk2⟩
 have hz1 := hb1.size
 have hz2 := hb2.size
 simp only [World.size_alloc] at hz1
 have hB : Below w.heap.size w w2 := ((((Below.refl w.heap.size w).alloc (Nat.le_refl _) (.cells #[.int .i64 (-3)] 3)).alloc (by simp) (.cells #[.int .i64 1, .int .i64 10, .int .i64 1, .int .i64 0, .slice (some ⟨w.heap.size, 0, none⟩) 1 1] 46)).trans (hb1.mono (by simp; omega))).trans (hb2.mono (by omega))
 have HB := hide hB
 have HF2 : Hid (FirstR (w.heap.size + 1 + 1) w2 (.slice (some ⟨w.heap.size + 1, 0, none⟩) 1 1)) := (HF.out.below (hb1.mono (by simp))).below (hb2.mono (by omega))
 have Hk1 := hide (KindsIn.only hk1 (Only.new (S := fun _ => False) hb2) (by simp))
 have Hk2 := hide hk2
 clear hk1 hk2 hB hb1
 go_wp2
 go_ret
 refine ⟨w2.heap.size + 1, firstOps (.slice sa1 2 sc1) (.slice sa2 2 sc2) (.slice (some ⟨w2.heap.size, 0, none⟩) 2 2) (.slice (some ⟨w.heap.size + 1, 0, none⟩) 1 1), by simp, ?_, by omega, rfl, ⟨_, ?_, rfl⟩, by simp, ?_, ?_, _, _, _, _, rfl, ?_⟩
 ·exact (HB.out.alloc (by omega) _).alloc (by simp; omega) _
 ·have := heap_new (w2.alloc (.cells #[.int .i64 7, .int .i64 9] 3)) (.cells (opsRow (firstOps (.slice sa1 2 sc1) (.slice sa2 2 sc2) (.slice (some ⟨w2.heap.size, 0, none⟩) 2 2) (.slice (some ⟨w.heap.size + 1, 0, none⟩) 1 1))).toArray 41)
  rw [World.size_alloc] at this
  exact this
 ·exact first_ok ⟨_, _, _, rfl⟩ hz2 Hk1.out Hk2.out _
 ·refine opsRow_one _ ?_
  intro o ho
  simp only [firstOps, List.mem_cons, List.not_mem_nil, or_false] at ho
  rcases ho with rfl | rfl | rfl | rfl | rfl | rfl | rfl | rfl | rfl | rfl | rfl <;> exact ⟨rfl, rfl, rfl, rfl, rfl⟩
 ·refine (HF2.out.below ?_).mono (by omega)
  exact ((Below.refl _ _).alloc (by omega) _).alloc (by simp; omega) _
end Go.Proofs.YtndlmgocldckfaaGreat
