import Derived.Test.YtndlmgocldckfaaKpI
import Derived.Test.YtndlmgocldckfaaSaZ
import Derived.Laws.IdiomStrings
namespace Go.Proofs.Ytndlmgocldckfaa
open Go.RowKit
set_option linter.unusedVariables false
set_option linter.unusedSimpArgs false

theorem stepF_self {ks : List (List Ins)} {draws : List Int} {horizon : Int} {s s' : KS} {why : Int} (h : stepF ks draws horizon s = (s', none, why)) : s' = s := by
  unfold stepF at h
  split at h
  · simp at h; exact h.1.symm
  · split at h
    · simp at h; exact h.1.symm
    · rcases hh : happenF ks draws _ s with ⟨t, told, y⟩
      rw [hh] at h
      simp only at h
      split at h
      · simp at h
      · simp at h; exact h.1.symm

/-- A run that was stopped is stopped again. -/
theorem runF_again {ks : List (List Ins)} {draws : List Int} {horizon : Int} : ∀ (n : Nat) (s s2 : KS) (rs : List Rec) (why : Int), runF ks draws horizon n s = (s2, rs, why) → why ≠ 0 → ∀ m, runF ks draws horizon (m + 1) s2 = (s2, [], why)
  | 0, s, s2, rs, why, h, hw, m => by simp only [runF, Prod.mk.injEq] at h; exact absurd h.2.2.symm hw
  | n + 1, s, s2, rs, why, h, hw, m => by
    rcases hs : stepF ks draws horizon s with ⟨s1, _ | r, y⟩
    · simp only [runF, hs, Prod.mk.injEq] at h
      obtain ⟨rfl, rfl, rfl⟩ := h
      simp only [runF, hs]
    · rcases hr : runF ks draws horizon n s1 with ⟨s3, rs3, y3⟩
      simp only [runF, hs, hr, Prod.mk.injEq] at h
      obtain ⟨rfl, rfl, rfl⟩ := h
      exact runF_again n s1 s3 rs3 y3 hr hw m

def strOf (l : List Int) : ByteArray := ⟨(l.map fun b => UInt8.ofNat b.toNat).toArray⟩

theorem conv_str {base : Nat} {w : World} {v : Value} {l : List Int} (h : BRow base w v l) (hb : ∀ b ∈ l, 0 ≤ b ∧ b < 256) : (convert 46 9 v).run Try.prog w = .ok (.string (strOf l)) w := by
  obtain ⟨g, cap, rfl, _, _, hr⟩ := h.row
  have := run_convert_bytes_back (P := Try.prog) w 46 9 5 ⟨g, 0, none⟩ cap (l.map fun b => UInt8.ofNat b.toNat) Try.underlying46 Try.underlying5 Try.underlying9 (by
    intro j hj
    have hj' : j < l.length := by simpa using hj
    have hc := hr j (.int .u8 l[j]) (by simp [byteV, hj'])
    have hx := hb l[j] (List.getElem_mem hj')
    rw [Addr.add_lit, hc]
    simp only [List.getElem_map]
    congr 2
    have h8 : (UInt8.ofNat l[j].toNat).toNat = l[j].toNat % 256 := UInt8.toNat_ofNat'
    rw [h8]
    omega)
  simpa [strOf] using this

theorem saveF_bytes {ents : Int} {nk : Nat} {draws : List Int} {s : KS} (hok : KOk ents nk draws s) (he : 1 ≤ ents ∧ ents ≤ 8) (hk : nk ≤ 8) (hd : draws.length ≤ 1000) (hs : Sorted s.q) : ∀ b ∈ saveF ents nk s, 0 ≤ b ∧ b < 256 := by
  intro b hb
  simp only [saveF, headF, List.mem_append] at hb
  rcases hb with (hb | hb) | hb
  · simp at hb; omega
  · exact bodyF_bytes hok he hk hd hs b hb
  · exact sumB_bytes _ b hb

set_option maxRecDepth 100000 in
set_option maxHeartbeats 4000000 in
theorem refused_any (sa da pa : Option Addr) (sc dc pc : Nat) (L D : List Int) (P : List PlanR) (horizon : Int) (w : World) (hL : RawL w sa L) (hD : RawL w da D) (hP : RawPl w pa P) :
    Calls Try.prog 5 #[.agg #[.slice sa L.length sc, .slice da D.length dc, .slice pa P.length pc], .int .i64 horizon] w fun e w' => e = .returned (.bool true) ∧ Below w.heap.size w w' := by
  have HL := hide hL
  have HD := hide hD
  have HP := hide hP
  clear hL hD hP
  go_enter Try.func5, Try.ntmps5
  go_wp2_with fail
  obtain ⟨W0, hW0⟩ : ∃ W0, W0 = w.alloc (.cells #[.slice sa L.length sc, .slice da D.length dc, .slice pa P.length pc] 25) := ⟨_, rfl⟩
  have hb0 : Below w.heap.size w W0 := by rw [hW0]; exact (Below.refl _ _).alloc (Nat.le_refl _) _
  have hz0 : W0.heap.size = w.heap.size + 1 := by rw [hW0]; simp
  rw [← hW0]
  clear hW0
  refine (begun_any sa da pa sc dc pc L D P W0 (HL.out.below hb0) (HD.out.below hb0) (HP.out.below hb0)).mono ?_
  rintro e w1 ⟨kb, qb, mb, ov, R, base, rfl, hB⟩
  have hz1 := hB.below.size
  have hbs := hB.base
  have HB1 := hide (hb0.trans (hB.below.mono (by omega)))
  have HB := hide hB
  clear hB hb0
  have hf := begunF_facts L D P
  have hRA := runF_all (kindsF_ok L) (rdrawsF_ok D) horizon 1000 (begunF L P) hf.1
  rcases hrun : runF (kindsF L) (rdrawsF D) horizon 1000 (begunF L P) with ⟨s2, rs, why⟩
  rw [hrun] at hRA
  simp only at hRA
  rcases hrun2 : runF (kindsF L) (rdrawsF D) horizon 1000 s2 with ⟨s3, rs2, again⟩
  have hag : why ≠ 0 → s3 = s2 ∧ rs2 = [] ∧ again = why := fun hw => by
    have := runF_again 1000 (begunF L P) s2 rs why hrun hw 999
    rw [hrun2] at this
    simpa using this
  have hRA2 := runF_all (kindsF_ok L) (rdrawsF_ok D) horizon 1000 s2 hRA.fit
  rw [hrun2] at hRA2
  simp only at hRA2
  have he := entsF_le L
  have hk := nkF_le L
  have hlk := kindsF_len L
  have hdl := rdrawsF_len D
  have hE : 1 ≤ entsF L ∧ entsF L ≤ 8 := by omega
  have hK : (kindsF L).length ≤ 8 := by omega
  have HR := hide (run_ok 1000 horizon w1 HB.out.ker hf.1.ok hE.2 hK (by omega) hbs.2 (kindsF_ok L) (rdrawsF_ok D) s2 rs why hrun)
  have hran := hRA.ran
  have HRA := hide hRA
  have HRA2 := hide hRA2
  have Hrun2 := hide hrun2
  clear hf he hk hlk hrun hrun2 hRA hRA2
  go_wp2_with fail
  refine HR.out.mono ?_
  rintro e w3 ⟨lv, ov3, RL, rfl, ho3, hm3, hk3, hok3, hout⟩
  obtain ⟨la, lcap, rfl, _⟩ := hout.at
  have HB3 : Hid (Below w.heap.size w w3) := HB1.out.trans (ho3.below (by omega) (fun k hk hc => by have := HB.out.kset _ hc; omega))
  have hz3 := ho3.size
  have Hks3 : Hid (∀ b, KSet kb qb mb ov3 b → base ≤ b) := by
    rintro b (hc | hc | hc | hc)
    · exact HB.out.kset b (.inl hc)
    · exact HB.out.kset b (.inr (.inl hc))
    · exact HB.out.kset b (.inr (.inr (.inl hc)))
    · rcases hm3 with e | ⟨g, e, hg⟩
      · exact HB.out.kset b (.inr (.inr (.inr (hc.trans e))))
      · rw [e] at hc; simp at hc; omega
  have Hk3 := hide hk3
  have Hok3 := hide hok3
  clear hout HR ho3 hm3 hk3 hok3
  go_wp2_with fail
  refine (save_any kb qb mb ov3 (entsF L) (kindsF L) (rdrawsF D) s2 w3 Hk3.out Hok3.out hK hE hdl.1 HRA.out.fit.q.sorted).mono ?_
  rintro e w4 ⟨pv, rfl, hb4, hrow4⟩
  obtain ⟨pg, pcap, rfl⟩ := hrow4.form
  have hz4 := hb4.size
  have Hrow4 := hide hrow4
  have HB4 := hide (HB3.out.trans (hb4.mono (by omega)))
  have HR2 := hide (run_ok 1000 horizon w4 (Hk3.out.below hb4) Hok3.out hE.2 hK (by omega) (by omega) (kindsF_ok L) (rdrawsF_ok D) s3 rs2 again Hrun2.out)
  have Hlt3 := hide Hk3.out.lt
  have hnl := (hrow4.lt pg rfl).1
  clear hb4 hrow4
  go_wp2_with fail
  refine HR2.out.mono ?_
  rintro e w5 ⟨lv5, ov5, RL5, rfl, ho5, hm5, hk5, hok5, hout5⟩
  obtain ⟨la5, lcap5, rfl, _⟩ := hout5.at
  have HB5 : Hid (Below w.heap.size w w5) := HB4.out.trans (ho5.below (by omega) (fun k hk hc => by have := Hks3.out _ hc; omega))
  have hz5 := ho5.size
  have Hrow5 : Hid (BRow w3.heap.size w5 _ (saveF (entsF L) (kindsF L).length s2)) := Hrow4.out.keep ho5 (fun b hb hc => by
    have h1 := Hlt3.out b hc
    have h2 := (Hrow4.out.lt b hb).1
    omega)
  have Hk5 := hide hk5
  have Hok5 := hide hok5
  clear ho5 hm5 hout5 HR2 hk5 hok5
  go_wp2_with fail
  refine (save_any kb qb mb ov5 (entsF L) (kindsF L) (rdrawsF D) s3 w5 Hk5.out Hok5.out hK hE hdl.1 HRA2.out.fit.q.sorted).mono ?_
  rintro e w6 ⟨qv, rfl, hb6, hrow6⟩
  obtain ⟨qg, qcap, rfl⟩ := hrow6.form
  have hz6 := hb6.size
  have HB6 := hide (HB5.out.trans (hb6.mono (by omega)))
  have Hrow6 := hide hrow6
  have Hrow5' := hide (Hrow5.out.keep (Only.new (S := fun _ => False) hb6) (by simp))
  clear hb6 hrow6
  by_cases hw0 : why = 0
  · subst hw0
    have hl : rs.length = 1000 := hran.1 rfl
    clear hag hran
    go_wp2_with fail
    go_ret
    exact ⟨rfl, HB6.out⟩
  · obtain ⟨rfl, rfl, rfl⟩ := hag hw0
    have hcv1 := conv_str Hrow5'.out (saveF_bytes Hok3.out hE hK hdl.1 HRA.out.fit.q.sorted)
    have hcv2 := conv_str Hrow6.out (saveF_bytes Hok3.out hE hK hdl.1 HRA.out.fit.q.sorted)
    have d1 : (again == 0) = false := by rw [beq_eq_false_iff_ne]; exact hw0
    have d1' : decide (again = 0) = false := by rw [decide_eq_false_iff_not]; exact hw0
    clear hran hag
    go_wp2_with fail
    go_ret
    exact ⟨rfl, HB6.out⟩
end Go.Proofs.Ytndlmgocldckfaa
