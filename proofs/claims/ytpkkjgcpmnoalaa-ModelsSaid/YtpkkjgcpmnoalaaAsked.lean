import Derived.Test.YtpkkjgcpmnoalaaUpd
import Derived.Test.YtpkkjgcpmnoalaaPlanX
import Derived.Test.YtpkkjgcpmnoalaaNowP
namespace Go.Proofs.Ytpkkjgcpmnoalaa
open Go.RowKit
set_option linter.unusedVariables false
set_option linter.unusedSimpArgs false

/-- What is changed by a call on a pair: nothing below 'base'. -/
theorem Inv.only_below {base : Nat} {w w' : World} {wb : Nat} {lv : Value} {ps : List Pair} {p : Pair} (h : Inv base w wb lv ps) (hp : p ∈ ps) (ho : Only p.has w w') : Below base w w' :=
  ho.below (Nat.le_trans h.blo (Nat.le_of_lt h.wlt)) (fun k hk hb => by have := (h.muts k ⟨p, hp, hb⟩).1; omega)

theorem Lasts.ne {base : Nat} {w : World} {wb : Nat} {lv : Value} {ps : List Pair} {p : Pair} (hp : p ∈ ps) {b : Nat} (hb : Lasts base w wb lv ps b) : b < w.heap.size ∧ b ≠ p.kb ∧ b ≠ p.mb ∧ b ≠ p.rb :=
  ⟨hb.2.1, fun e => hb.2.2.1 ⟨p, hp, .inl e⟩, fun e => hb.2.2.1 ⟨p, hp, .inr (.inl e)⟩, fun e => hb.2.2.1 ⟨p, hp, .inr (.inr e)⟩⟩

set_option maxRecDepth 100000 in
set_option maxHeartbeats 2000000 in
theorem asked_plan {base : Nat} (wb : Nat) (lv : Value) (ps : List Pair) (i : Nat) (p : Pair) (a b c d ents : Int) (kv l rv qv sv : Value) (w : World) (h : Inv base w wb lv ps) (hi : ps[i]? = some p) :
    Calls Try.prog 13 #[.pointer (some ⟨wb, 0, none⟩), .agg #[.pointer (some ⟨p.kb, 0, none⟩), .pointer (some ⟨p.rb, 0, none⟩)], .agg #[.int .i64 3, .int .i64 a, .int .i64 b, .int .i64 c, .int .i64 d, .int .i64 ents, kv, l, rv, qv, sv]] w
      fun e w' => e = .returned (.bool true) ∧ Only (Mut ps) w w' ∧ ∃ ps', ps'.length = ps.length ∧ Inv base w' wb lv ps' := by
  have hpm : p ∈ ps := List.mem_of_getElem? hi
  have hOK := h.pairs p hpm
  have hlt := hOK.lt
  have k1 := hlt p.kb (.inl rfl)
  have k2 := hlt p.mb (.inr (.inl rfl))
  have k3 := hlt p.rb (.inr (.inr rfl))
  obtain ⟨W, hW⟩ : ∃ W, W = (w.alloc (.cells #[.pointer (some ⟨p.kb, 0, none⟩), .pointer (some ⟨p.rb, 0, none⟩)] 52)).alloc (.cells #[.int .i64 3, .int .i64 a, .int .i64 b, .int .i64 c, .int .i64 d, .int .i64 ents, kv, l, rv, qv, sv] 41) := ⟨_, rfl⟩
  have hb : Below w.heap.size w W := by rw [hW]; exact ((Below.refl _ _).alloc (Nat.le_refl _) _).alloc (by simp) _
  have hWs : W.heap.size = w.heap.size + 1 + 1 := by rw [hW]; simp
  have c1 : W.cell? ⟨w.heap.size, 1, none⟩ = some (.pointer (some ⟨p.rb, 0, none⟩)) := by rw [hW]; simp [go_sem]
  have c2 : W.cell? ⟨w.heap.size + 1, 2, none⟩ = some (.int .i64 b) := by rw [hW]; simp [go_sem]
  have c3 : W.cell? ⟨w.heap.size + 1, 3, none⟩ = some (.int .i64 c) := by rw [hW]; simp [go_sem]
  have c4 : W.cell? ⟨w.heap.size + 1, 4, none⟩ = some (.int .i64 d) := by rw [hW]; simp [go_sem]
  have hI := h.below hb
  have hOKW := hI.pairs p hpm
  have hRW : ∀ x, Lasts base W wb lv ps x → x < W.heap.size ∧ x ≠ p.kb ∧ x ≠ p.mb ∧ x ≠ p.rb := fun x hx => Lasts.ne hpm hx
  have Hlt := hide hlt
  have hbl : base ≤ w.heap.size := Nat.le_trans h.blo (Nat.le_of_lt h.wlt)
  have HI := hide hI
  have HO := hide hOKW
  have HR := hide hRW
  have hkr := hOK.kr
  have hmr := hOK.mr
  have hlen := hOK.len
  have Hlen := hide hlen
  clear hlt hI hOKW hRW hlen
  rcases hyes : ((inB b 0 1000000000000 && inB c 0 (p.ks.length - 1)) && inB d 0 (p.ents - 1)) with _ | _
  · have Hyes := hide hyes
    clear hyes
    go_enter Try.func13, Try.ntmps13
    go_wp2_with fail
    rw [← hW]
    refine (tPlan_arg p.kb p.mb p.ents p.ks p.draws p.n _ _ _ _ HO.out.prog hOK.e1 hOK.e8 hOK.k8 Hyes.out).mono ?_
    rintro e w2 ⟨rfl, hb2⟩
    have g1 := below_at hb2 c1 (by omega)
    have g2 := below_at hb2 c2 (by omega)
    have g3 := below_at hb2 c3 (by omega)
    have g4 := below_at hb2 c4 (by omega)
    have hz2 := hb2.size
    have hI2 := HI.out.below hb2
    have HI2 := hide hI2
    clear hI2 c1 c2 c3 c4
    go_wp2_with fail
    refine (rPlan_arg p.rb p.ents p.ks p.draws 0 0 (p.n + 1) _ p.q _ _ _ _ (HI2.out.pairs p hpm).ref hOK.e1 hOK.e8 hOK.k8 Hyes.out).mono ?_
    rintro e w3 ⟨rfl, rfl⟩
    go_wp2
    go_ret
    exact ⟨rfl, (Only.new hb).trans (Only.new hb2), ps, rfl, HI2.out⟩
  · have Hyes := hide hyes
    clear hyes
    go_enter Try.func13, Try.ntmps13
    go_wp2_with fail
    rw [← hW]
    refine (tPlan_ok p.kb p.mb p.ents p.ks p.draws p.n _ _ _ _ HO.out.prog hOK.e1 hOK.e8 hOK.k8 hOK.le (fun x hx => ⟨(HR.out x hx).1, (HR.out x hx).2.1, (HR.out x hx).2.2.1⟩) Hyes.out).mono ?_
    rintro e w2 ⟨ho2, hres⟩
    have nB : ∀ x, w.heap.size ≤ x → ¬ (x = p.kb ∨ x = p.mb) := by intro x hx; omega
    have g1 := ho2.at c1 (nB _ (by omega))
    have g2 := ho2.at c2 (nB _ (by omega))
    have g3 := ho2.at c3 (nB _ (by omega))
    have g4 := ho2.at c4 (nB _ (by omega))
    have hz2 := ho2.size
    have href : RefK (Lasts base W wb lv ps) w2 p.rb p.ents p.ks p.draws 0 0 (p.n + 1) (List.replicate (p.ents * 4).toNat 0) p.q := HO.out.ref.only ho2 (fun x hx => by have := HR.out x hx; omega) (by omega)
    have Hres := hide hres
    have Href := hide href
    have HRw : Hid (∀ x, Lasts base W wb lv ps x → x < w2.heap.size ∧ x ≠ p.rb) := fun x hx => ⟨by have := (HR.out x hx).1; omega, (HR.out x hx).2.2.2⟩
    clear hres href c1 c2 c3 c4
    rcases Hres.out with ⟨hn, rfl, hP2⟩ | ⟨hn, rfl, hP2⟩
    · have Hd : Hid ((decide (p.q.length < 16) && decide ((p.n : Int) + 1 < 1000000000)) = true) := by show _ = _; rw [Hlen.out]; simp; omega
      have HP2 := hide hP2
      clear hP2
      go_wp2_with fail
      refine (rPlan_ok p.rb p.ents p.ks p.draws 0 0 (p.n + 1) _ p.q _ _ _ _ Href.out hOK.e1 hOK.e8 hOK.k8 HRw.out (by omega) Hyes.out).mono ?_
      rintro e w3 hr3
      rcases hr3 with ⟨hf, _⟩ | ⟨_, rfl, ho3, hP3⟩
      · rw [Hd.out] at hf; cases hf
      have ho23 : Only p.has W w3 := (ho2.mono (S' := p.has) (by rintro x _ (e | e); exact .inl e; exact .inr (.inl e))).trans (ho3.mono (fun x _ e => .inr (.inr e)))
      have hz3 := ho3.size
      have hup : Inv base w3 wb lv (ps.set i { p with n := p.n + 1, q := insF ⟨b, p.n + 1, c, d⟩ p.q }) := by
        refine HI.out.update hi ho23 rfl rfl rfl ⟨?_, ?_, by rw [insF_length, Hlen.out], by show p.n + 1 ≤ 16; omega, hOK.e1, hOK.e8, hOK.k8, hOK.d1000, hOK.km, hOK.kr, hOK.mr⟩
        · exact (HP2.out.only ho3 (fun x hx => (HRw.out x hx).2) (by exact hkr) (by exact hmr)).mono (fun x hx => .inl hx)
        · refine RefK.mono (R := fun x => Lasts base W wb lv ps x ∨ (w2.heap.size ≤ x ∧ x < w3.heap.size)) (by simpa using hP3) ?_
          rintro x (hx | hx)
          · exact .inl hx
          · exact .inr ⟨by omega, hx.2⟩
      have HU := hide hup
      have hbb : Below base W w3 := HI.out.only_below hpm ho23
      clear hup
      go_wp2
      go_ret
      exact ⟨by simp, (Only.new hb).trans (ho23.mono (fun x _ hx => ⟨p, hpm, hx⟩)), _, by simp, HU.out⟩
    · have Hd : Hid ((decide (p.q.length < 16) && decide ((p.n : Int) + 1 < 1000000000)) = false) := by show _ = _; rw [Hlen.out]; simp; omega
      have HP2 := hide hP2
      clear hP2
      go_wp2_with fail
      refine (rPlan_ok p.rb p.ents p.ks p.draws 0 0 (p.n + 1) _ p.q _ _ _ _ Href.out hOK.e1 hOK.e8 hOK.k8 HRw.out (by omega) Hyes.out).mono ?_
      rintro e w3 hr3
      rcases hr3.symm with ⟨hf, _⟩ | ⟨_, rfl, rfl⟩
      · rw [Hd.out] at hf; cases hf
      have ho23 : Only p.has W w3 := ho2.mono (S' := p.has) (by rintro x _ (e | e); exact .inl e; exact .inr (.inl e))
      have hup : Inv base w3 wb lv (ps.set i p) := by
        refine HI.out.update hi ho23 rfl rfl rfl ⟨HP2.out.mono (fun x hx => .inl hx), ?_, hOK.len, hOK.le, hOK.e1, hOK.e8, hOK.k8, hOK.d1000, hOK.km, hOK.kr, hOK.mr⟩
        exact RefK.mono Href.out (fun x hx => .inl hx)
      have HU := hide hup
      have hbb : Below base W w3 := HI.out.only_below hpm ho23
      clear hup
      go_wp2
      go_ret
      exact ⟨by simp, (Only.new hb).trans (ho23.mono (fun x _ hx => ⟨p, hpm, hx⟩)), _, by simp, HU.out⟩

set_option maxRecDepth 100000 in
set_option maxHeartbeats 2000000 in
theorem asked_now {base : Nat} (wb : Nat) (lv : Value) (ps : List Pair) (i : Nat) (p : Pair) (a b c d ents : Int) (kv l rv qv sv : Value) (w : World) (h : Inv base w wb lv ps) (hi : ps[i]? = some p) :
    Calls Try.prog 13 #[.pointer (some ⟨wb, 0, none⟩), .agg #[.pointer (some ⟨p.kb, 0, none⟩), .pointer (some ⟨p.rb, 0, none⟩)], .agg #[.int .i64 5, .int .i64 a, .int .i64 b, .int .i64 c, .int .i64 d, .int .i64 ents, kv, l, rv, qv, sv]] w
      fun e w' => e = .returned (.bool true) ∧ Only (Mut ps) w w' ∧ ∃ ps', ps'.length = ps.length ∧ Inv base w' wb lv ps' := by
  have hpm : p ∈ ps := List.mem_of_getElem? hi
  have hOK := h.pairs p hpm
  obtain ⟨W, hW⟩ : ∃ W, W = (w.alloc (.cells #[.pointer (some ⟨p.kb, 0, none⟩), .pointer (some ⟨p.rb, 0, none⟩)] 52)).alloc (.cells #[.int .i64 5, .int .i64 a, .int .i64 b, .int .i64 c, .int .i64 d, .int .i64 ents, kv, l, rv, qv, sv] 41) := ⟨_, rfl⟩
  have hb : Below w.heap.size w W := by rw [hW]; exact ((Below.refl _ _).alloc (Nat.le_refl _) _).alloc (by simp) _
  have hWs : W.heap.size = w.heap.size + 1 + 1 := by rw [hW]; simp
  have c1 : W.cell? ⟨w.heap.size, 1, none⟩ = some (.pointer (some ⟨p.rb, 0, none⟩)) := by rw [hW]; simp [go_sem]
  have HI := hide (h.below hb)
  have hbl : base ≤ w.heap.size := Nat.le_trans h.blo (Nat.le_of_lt h.wlt)
  have Hlen := hide hOK.len
  go_enter Try.func13, Try.ntmps13
  go_wp2_with fail
  rw [← hW]
  refine (tNow_any p.kb p.mb p.ents p.ks p.draws p.n _ (HI.out.pairs p hpm).prog).mono ?_
  rintro e w2 ⟨rfl, hb2⟩
  have g1 := below_at hb2 c1 (by omega)
  have hz2 := hb2.size
  have HI2 := hide (HI.out.below hb2)
  clear c1
  go_wp2_with fail
  refine (rNow_any p.rb p.ents p.ks p.draws 0 0 (p.n + 1) _ p.q _ (HI2.out.pairs p hpm).ref (by omega) (by omega)).mono ?_
  rintro e w3 ⟨rfl, hb3⟩
  rw [Hlen.out, Int.sub_zero]
  have HI3 := hide (HI2.out.below hb3)
  go_wp2
  go_ret
  exact ⟨by simp, (Only.new hb).trans ((Only.new hb2).trans (Only.new hb3)), ps, rfl, HI3.out⟩

set_option maxRecDepth 100000 in
set_option maxHeartbeats 2000000 in
theorem asked_reg {base : Nat} (wb : Nat) (lv : Value) (ps : List Pair) (i : Nat) (p : Pair) (a b c d ents : Int) (kv l rv qv sv : Value) (w : World) (h : Inv base w wb lv ps) (hi : ps[i]? = some p) :
    Calls Try.prog 13 #[.pointer (some ⟨wb, 0, none⟩), .agg #[.pointer (some ⟨p.kb, 0, none⟩), .pointer (some ⟨p.rb, 0, none⟩)], .agg #[.int .i64 6, .int .i64 a, .int .i64 b, .int .i64 c, .int .i64 d, .int .i64 ents, kv, l, rv, qv, sv]] w
      fun e w' => e = .returned (.bool true) ∧ Only (Mut ps) w w' ∧ ∃ ps', ps'.length = ps.length ∧ Inv base w' wb lv ps' := by
  have hpm : p ∈ ps := List.mem_of_getElem? hi
  have hOK := h.pairs p hpm
  obtain ⟨W, hW⟩ : ∃ W, W = (w.alloc (.cells #[.pointer (some ⟨p.kb, 0, none⟩), .pointer (some ⟨p.rb, 0, none⟩)] 52)).alloc (.cells #[.int .i64 6, .int .i64 a, .int .i64 b, .int .i64 c, .int .i64 d, .int .i64 ents, kv, l, rv, qv, sv] 41) := ⟨_, rfl⟩
  have hb : Below w.heap.size w W := by rw [hW]; exact ((Below.refl _ _).alloc (Nat.le_refl _) _).alloc (by simp) _
  have hWs : W.heap.size = w.heap.size + 1 + 1 := by rw [hW]; simp
  have c1 : W.cell? ⟨w.heap.size, 1, none⟩ = some (.pointer (some ⟨p.rb, 0, none⟩)) := by rw [hW]; simp [go_sem]
  have c2 : W.cell? ⟨w.heap.size + 1, 2, none⟩ = some (.int .i64 b) := by rw [hW]; simp [go_sem]
  have c3 : W.cell? ⟨w.heap.size + 1, 3, none⟩ = some (.int .i64 c) := by rw [hW]; simp [go_sem]
  have HI := hide (h.below hb)
  have hbl : base ≤ w.heap.size := Nat.le_trans h.blo (Nat.le_of_lt h.wlt)
  have he1 := hOK.e1
  have he8 := hOK.e8
  have hrl : ((List.replicate (p.ents * 4).toNat (0 : Int)).length : Int) = p.ents * 4 := by simp; omega
  have Hrl := hide hrl
  clear hrl
  go_enter Try.func13, Try.ntmps13
  go_wp2_with fail
  rw [← hW]
  refine (tReg_any p.kb p.mb p.ents p.ks p.draws p.n _ _ _ (HI.out.pairs p hpm).prog he1 he8).mono ?_
  rintro e w2 ⟨rfl, hb2⟩
  have g1 := below_at hb2 c1 (by omega)
  have g2 := below_at hb2 c2 (by omega)
  have g3 := below_at hb2 c3 (by omega)
  have hz2 := hb2.size
  have HI2 := hide (HI.out.below hb2)
  clear c1 c2 c3
  go_wp2_with fail
  refine (rReg_any p.rb p.ents p.ks p.draws 0 0 (p.n + 1) _ p.q _ _ _ (HI2.out.pairs p hpm).ref he1 he8 Hrl.out).mono ?_
  rintro e w3 ⟨rfl, hr3⟩
  have hE : (e = .returned (.tuple #[.int .i64 0, .int .i64 (regE p.ents b c)])) := by
    rcases hr3 with ⟨h1, rfl⟩ | ⟨h1, x, hx, rfl⟩
    · simp [regE, h1]
    · have : x = 0 := by
        have := List.mem_of_getElem? hx
        exact (List.mem_replicate.1 this).2
      simp [regE, h1, this]
  subst hE
  generalize regE p.ents b c = re
  clear hr3
  go_wp2
  go_ret
  exact ⟨by simp, (Only.new hb).trans (Only.new hb2), ps, rfl, HI2.out⟩

/-- A step on a pair: Plan, Now, Register. -/
theorem asked_any {base : Nat} (wb : Nat) (lv : Value) (ps : List Pair) (i : Nat) (p : Pair) (k a b c d ents : Int) (kv l rv qv sv : Value) (w : World) (h : Inv base w wb lv ps) (hi : ps[i]? = some p) (hk : k = 3 ∨ k = 5 ∨ k = 6) :
    Calls Try.prog 13 #[.pointer (some ⟨wb, 0, none⟩), .agg #[.pointer (some ⟨p.kb, 0, none⟩), .pointer (some ⟨p.rb, 0, none⟩)], .agg #[.int .i64 k, .int .i64 a, .int .i64 b, .int .i64 c, .int .i64 d, .int .i64 ents, kv, l, rv, qv, sv]] w
      fun e w' => e = .returned (.bool true) ∧ Only (Mut ps) w w' ∧ ∃ ps', ps'.length = ps.length ∧ Inv base w' wb lv ps' := by
  rcases hk with rfl | rfl | rfl
  · exact asked_plan wb lv ps i p a b c d ents kv l rv qv sv w h hi
  · exact asked_now wb lv ps i p a b c d ents kv l rv qv sv w h hi
  · exact asked_reg wb lv ps i p a b c d ents kv l rv qv sv w h hi
end Go.Proofs.Ytpkkjgcpmnoalaa
