import Derived.Test.YtndlmgocldckfaaKpI
import Derived.Test.YtndlmgocldckfaaSaZ
import Derived.Laws.IdiomStrings
import Derived.Test.YtndlmgocldckfaaRunC
import Derived.Test.YtndlmgocldckfaaRdZ
import Derived.Test.YtndlmgocldckfaaRcZ
namespace Go.Proofs.Ytndlmgocldckfaa
open Go.RowKit
set_option linter.unusedVariables false
set_option linter.unusedSimpArgs false

theorem stepF_self {ks : List (List Ins)} {draws : List Int} {horizon : Int} {s s' : KS} {why : Int} (h : stepF ks draws horizon s = (s', none, why)) : s' = s := by
  unfold stepF at h
  split at h
  · simp at h; exact h.1.symm
  · split at h
    · simp at h; exact h.1.symm
    · rcases hh : happenF ks draws _ s with ⟨t, told, y⟩
      rw [hh] at h
      simp only at h
      split at h
      · simp at h
      · simp at h; exact h.1.symm

/-- A run that was stopped is stopped again. -/
theorem runF_again {ks : List (List Ins)} {draws : List Int} {horizon : Int} : ∀ (n : Nat) (s s2 : KS) (rs : List Rec) (why : Int), runF ks draws horizon n s = (s2, rs, why) → why ≠ 0 → ∀ m, runF ks draws horizon (m + 1) s2 = (s2, [], why)
  | 0, s, s2, rs, why, h, hw, m => by simp only [runF, Prod.mk.injEq] at h; exact absurd h.2.2.symm hw
  | n + 1, s, s2, rs, why, h, hw, m => by
    rcases hs : stepF ks draws horizon s with ⟨s1, _ | r, y⟩
    · simp only [runF, hs, Prod.mk.injEq] at h
      obtain ⟨rfl, rfl, rfl⟩ := h
      simp only [runF, hs]
    · rcases hr : runF ks draws horizon n s1 with ⟨s3, rs3, y3⟩
      simp only [runF, hs, hr, Prod.mk.injEq] at h
      obtain ⟨rfl, rfl, rfl⟩ := h
      exact runF_again n s1 s3 rs3 y3 hr hw m

def strOf (l : List Int) : ByteArray := ⟨(l.map fun b => UInt8.ofNat b.toNat).toArray⟩

theorem conv_str {base : Nat} {w : World} {v : Value} {l : List Int} (h : BRow base w v l) (hb : ∀ b ∈ l, 0 ≤ b ∧ b < 256) : (convert 46 9 v).run Try.prog w = .ok (.string (strOf l)) w := by
  obtain ⟨g, cap, rfl, _, _, hr⟩ := h.row
  have := run_convert_bytes_back (P := Try.prog) w 46 9 5 ⟨g, 0, none⟩ cap (l.map fun b => UInt8.ofNat b.toNat) Try.underlying46 Try.underlying5 Try.underlying9 (by
    intro j hj
    have hj' : j < l.length := by simpa using hj
    have hc := hr j (.int .u8 l[j]) (by simp [byteV, hj'])
    have hx := hb l[j] (List.getElem_mem hj')
    rw [Addr.add_lit, hc]
    simp only [List.getElem_map]
    congr 2
    have h8 : (UInt8.ofNat l[j].toNat).toNat = l[j].toNat % 256 := UInt8.toNat_ofNat'
    rw [h8]
    omega)
  simpa [strOf] using this

theorem saveF_bytes {ents : Int} {nk : Nat} {draws : List Int} {s : KS} (hok : KOk ents nk draws s) (he : 1 ≤ ents ∧ ents ≤ 8) (hk : nk ≤ 8) (hd : draws.length ≤ 1000) (hs : Sorted s.q) : ∀ b ∈ saveF ents nk s, 0 ≤ b ∧ b < 256 := by
  intro b hb
  simp only [saveF, headF, List.mem_append] at hb
  rcases hb with (hb | hb) | hb
  · simp at hb; omega
  · exact bodyF_bytes hok he hk hd hs b hb
  · exact sumB_bytes _ b hb

set_option maxRecDepth 100000 in
set_option maxHeartbeats 4000000 in
theorem refused_any (sa da pa : Option Addr) (sc dc pc : Nat) (L D : List Int) (P : List PlanR) (horizon : Int) (w : World) (hL : RawL w sa L) (hD : RawL w da D) (hP : RawPl w pa P) :
    Calls Try.prog 5 #[.agg #[.slice sa L.length sc, .slice da D.length dc, .slice pa P.length pc], .int .i64 horizon] w fun e w' => e = .returned (.bool true) ∧ Below w.heap.size w w' := by
  have HL := hide hL
  have HD := hide hD
  have HP := hide hP
  clear hL hD hP
  go_enter Try.func5, Try.ntmps5
  go_wp2_with fail
  obtain ⟨W0, hW0⟩ : ∃ W0, W0 = w.alloc (.cells #[.slice sa L.length sc, .slice da D.length dc, .slice pa P.length pc] 25) := ⟨_, rfl⟩
  have hb0 : Below w.heap.size w W0 := by rw [hW0]; exact (Below.refl _ _).alloc (Nat.le_refl _) _
  have hz0 : W0.heap.size = w.heap.size + 1 := by rw [hW0]; simp
  rw [← hW0]
  clear hW0
  refine (begun_any sa da pa sc dc pc L D P W0 (HL.out.below hb0) (HD.out.below hb0) (HP.out.below hb0)).mono ?_
  rintro e w1 ⟨kb, qb, mb, ov, R, base, rfl, hB⟩
  have hz1 := hB.below.size
  have hbs := hB.base
  have HB1 := hide (hb0.trans (hB.below.mono (by omega)))
  have HB := hide hB
  clear hB hb0
  have hf := begunF_facts L D P
  have hRA := runF_all (kindsF_ok L) (rdrawsF_ok D) horizon 1000 (begunF L P) hf.1
  rcases hrun : runF (kindsF L) (rdrawsF D) horizon 1000 (begunF L P) with ⟨s2, rs, why⟩
  rw [hrun] at hRA
  simp only at hRA
  rcases hrun2 : runF (kindsF L) (rdrawsF D) horizon 1000 s2 with ⟨s3, rs2, again⟩
  have hag : why ≠ 0 → s3 = s2 ∧ rs2 = [] ∧ again = why := fun hw => by
    have := runF_again 1000 (begunF L P) s2 rs why hrun hw 999
    rw [hrun2] at this
    simpa using this
  have hRA2 := runF_all (kindsF_ok L) (rdrawsF_ok D) horizon 1000 s2 hRA.fit
  rw [hrun2] at hRA2
  simp only at hRA2
  have he := entsF_le L
  have hk := nkF_le L
  have hlk := kindsF_len L
  have hdl := rdrawsF_len D
  have hE : 1 ≤ entsF L ∧ entsF L ≤ 8 := by omega
  have hK : (kindsF L).length ≤ 8 := by omega
  have HR := hide (run_ok 1000 horizon w1 HB.out.ker hf.1.ok hE.2 hK (by omega) hbs.2 (kindsF_ok L) (rdrawsF_ok D) s2 rs why hrun)
  have hran := hRA.ran
  have HRA := hide hRA
  have HRA2 := hide hRA2
  have Hrun2 := hide hrun2
  clear hf he hk hlk hrun hrun2 hRA hRA2
  go_wp2_with fail
  refine HR.out.mono ?_
  rintro e w3 ⟨lv, ov3, RL, rfl, ho3, hm3, hk3, hok3, hout⟩
  obtain ⟨la, lcap, rfl, _⟩ := hout.at
  have HB3 : Hid (Below w.heap.size w w3) := HB1.out.trans (ho3.below (by omega) (fun k hk hc => by have := HB.out.kset _ hc; omega))
  have hz3 := ho3.size
  have Hks3 : Hid (∀ b, KSet kb qb mb ov3 b → base ≤ b) := by
    rintro b (hc | hc | hc | hc)
    · exact HB.out.kset b (.inl hc)
    · exact HB.out.kset b (.inr (.inl hc))
    · exact HB.out.kset b (.inr (.inr (.inl hc)))
    · rcases hm3 with e | ⟨g, e, hg⟩
      · exact HB.out.kset b (.inr (.inr (.inr (hc.trans e))))
      · rw [e] at hc; simp at hc; omega
  have Hk3 := hide hk3
  have Hok3 := hide hok3
  clear hout HR ho3 hm3 hk3 hok3
  go_wp2_with fail
  refine (save_any kb qb mb ov3 (entsF L) (kindsF L) (rdrawsF D) s2 w3 Hk3.out Hok3.out hK hE hdl.1 HRA.out.fit.q.sorted).mono ?_
  rintro e w4 ⟨pv, rfl, hb4, hrow4⟩
  obtain ⟨pg, pcap, rfl⟩ := hrow4.form
  have hz4 := hb4.size
  have Hrow4 := hide hrow4
  have HB4 := hide (HB3.out.trans (hb4.mono (by omega)))
  have HR2 := hide (run_ok 1000 horizon w4 (Hk3.out.below hb4) Hok3.out hE.2 hK (by omega) (by omega) (kindsF_ok L) (rdrawsF_ok D) s3 rs2 again Hrun2.out)
  have Hlt3 := hide Hk3.out.lt
  have hnl := (hrow4.lt pg rfl).1
  clear hb4 hrow4
  go_wp2_with fail
  refine HR2.out.mono ?_
  rintro e w5 ⟨lv5, ov5, RL5, rfl, ho5, hm5, hk5, hok5, hout5⟩
  obtain ⟨la5, lcap5, rfl, _⟩ := hout5.at
  have HB5 : Hid (Below w.heap.size w w5) := HB4.out.trans (ho5.below (by omega) (fun k hk hc => by have := Hks3.out _ hc; omega))
  have hz5 := ho5.size
  have Hrow5 : Hid (BRow w3.heap.size w5 _ (saveF (entsF L) (kindsF L).length s2)) := Hrow4.out.keep ho5 (fun b hb hc => by
    have h1 := Hlt3.out b hc
    have h2 := (Hrow4.out.lt b hb).1
    omega)
  have Hk5 := hide hk5
  have Hok5 := hide hok5
  clear ho5 hm5 hout5 HR2 hk5 hok5
  go_wp2_with fail
  refine (save_any kb qb mb ov5 (entsF L) (kindsF L) (rdrawsF D) s3 w5 Hk5.out Hok5.out hK hE hdl.1 HRA2.out.fit.q.sorted).mono ?_
  rintro e w6 ⟨qv, rfl, hb6, hrow6⟩
  obtain ⟨qg, qcap, rfl⟩ := hrow6.form
  have hz6 := hb6.size
  have HB6 := hide (HB5.out.trans (hb6.mono (by omega)))
  have Hrow6 := hide hrow6
  have Hrow5' := hide (Hrow5.out.keep (Only.new (S := fun _ => False) hb6) (by simp))
  clear hb6 hrow6
  by_cases hw0 : why = 0
  · subst hw0
    have hl : rs.length = 1000 := hran.1 rfl
    clear hag hran
    go_wp2_with fail
    go_ret
    exact ⟨rfl, HB6.out⟩
  · obtain ⟨rfl, rfl, rfl⟩ := hag hw0
    have hcv1 := conv_str Hrow5'.out (saveF_bytes Hok3.out hE hK hdl.1 HRA.out.fit.q.sorted)
    have hcv2 := conv_str Hrow6.out (saveF_bytes Hok3.out hE hK hdl.1 HRA.out.fit.q.sorted)
    have d1 : (again == 0) = false := by rw [beq_eq_false_iff_ne]; exact hw0
    have d1' : decide (again = 0) = false := by rw [decide_eq_false_iff_not]; exact hw0
    clear hran hag
    go_wp2_with fail
    go_ret
    exact ⟨rfl, HB6.out⟩
end Go.Proofs.Ytndlmgocldckfaa

namespace Go.Proofs.Ytndlmgocldckfaa
open Go.RowKit
set_option linter.unusedVariables false
set_option linter.unusedSimpArgs false

theorem RecsAt.below {w w' : World} {v : Value} {rs : List Rec} {b cap : Nat} (h : RecsAt w v rs b cap) (hb : Below w.heap.size w w') : RecsAt w' v rs b cap := by
  refine ⟨h.form, fun i r hr => ?_⟩
  obtain ⟨sa, sc, c0, c1, c2, c3, c4, ct⟩ := h.cells i r hr
  refine ⟨sa, sc, below_at hb c0 (lt_of_cell c0), below_at hb c1 (lt_of_cell c1), below_at hb c2 (lt_of_cell c2), below_at hb c3 (lt_of_cell c3), below_at hb c4 (lt_of_cell c4), fun k t ht => ?_⟩
  obtain ⟨g, h1, h2⟩ := ct k t ht
  exact ⟨g, h1, below_at hb h2 (lt_of_cell h2)⟩

set_option maxRecDepth 100000 in
set_option maxHeartbeats 4000000 in
theorem same_any (a1 a2 : Option Addr) (cap1 cap2 b1 b2 : Nat) (rs : List Rec) (w : World) (hl : rs.length ≤ 1000) (ht : ∀ r ∈ rs, r.told.length ≤ 16) (h1 : RecsAt w (.slice a1 rs.length cap1) rs b1 cap1) (h2 : RecsAt w (.slice a2 rs.length cap2) rs b2 cap2) :
    Calls Try.prog 17 #[.slice a1 rs.length cap1, .slice a2 rs.length cap2] w fun e w' => e = .returned (.bool true) ∧ Below w.heap.size w w' := by
  have H1 := hide h1
  have H2 := hide h2
  have Ht := hide ht
  clear h1 h2 ht
  go_enter Try.func17, Try.ntmps17
  go_wp2_with fail
  go_loopg [5] 1004 (fun g s5 wr => ∃ (i : Nat), s5 = .int .i64 i ∧ rs.length - i + 2 ≤ g ∧ i ≤ rs.length ∧ Hid (Below w.heap.size w wr))
  case atStart => exact ⟨0, rfl, by omega, by omega, Below.refl _ _⟩
  case round =>
    rename World => wo
    obtain ⟨i, rfl, hg, hi, hI⟩ := hrel
    by_cases hlt : i < rs.length
    · have f1 : decide ((i : Int) < (rs.length : Int)) = true := by simp; omega
      have hii : (i : Int) < (rs.length : Int) := by omega
      have hw : IntKind.i64.wrap ((i : Int) + 1) = (i : Int) + 1 := by rw [IntKind.wrap_i64]; omega
      have hne : rs ≠ [] := by intro hc; rw [hc] at hlt; simp at hlt
      have e1 := H1.out.form hne
      have e2 := H2.out.form hne
      simp only [Value.slice.injEq] at e1 e2
      obtain ⟨rfl, _⟩ := e1
      obtain ⟨rfl, _⟩ := e2
      obtain ⟨sa, sc, c0, c1, c2, c3, c4, ct⟩ := H1.out.cells i rs[i] (List.getElem?_eq_getElem hlt)
      obtain ⟨ta, tc, d0, d1, d2, d3, d4, dt⟩ := H2.out.cells i rs[i] (List.getElem?_eq_getElem hlt)
      have htl := Ht.out rs[i] (List.getElem_mem hlt)
      replace c0 := below_at hI.out c0 (lt_of_cell c0)
      replace c1 := below_at hI.out c1 (lt_of_cell c1)
      replace c2 := below_at hI.out c2 (lt_of_cell c2)
      replace c3 := below_at hI.out c3 (lt_of_cell c3)
      replace c4 := below_at hI.out c4 (lt_of_cell c4)
      replace d0 := below_at hI.out d0 (lt_of_cell d0)
      replace d1 := below_at hI.out d1 (lt_of_cell d1)
      replace d2 := below_at hI.out d2 (lt_of_cell d2)
      replace d3 := below_at hI.out d3 (lt_of_cell d3)
      replace d4 := below_at hI.out d4 (lt_of_cell d4)
      have Hct := hide ct
      have Hdt := hide dt
      generalize rs[i] = r at *
      obtain ⟨⟨rt, rn, rk, re⟩, told⟩ := r
      simp only at c0 c1 c2 c3 c4 d0 d1 d2 d3 d4 htl Hct Hdt
      have hb1l := lt_of_cell c0
      have hb2l := lt_of_cell d0
      have hzo := hI.out.size
      clear ct dt
      go_wp2_with fail
      obtain ⟨W1, hW1⟩ : ∃ W1, W1 = (wo.alloc (.cells #[.int .i64 rn, .int .i64 rt, .int .i64 rk, .int .i64 re, .slice sa told.length sc] 36)).alloc (.cells #[.int .i64 rn, .int .i64 rt, .int .i64 rk, .int .i64 re, .slice ta told.length tc] 36) := ⟨_, rfl⟩
      have hb1 : Below wo.heap.size wo W1 := by rw [hW1]; exact ((Below.refl _ _).alloc (Nat.le_refl _) _).alloc (by simp) _
      have hz1 : W1.heap.size = wo.heap.size + 2 := by rw [hW1]; simp
      have x4 : W1.cell? ⟨wo.heap.size, 4, none⟩ = some (.slice sa told.length sc) := by rw [hW1]; simp [go_sem]
      have y4 : W1.cell? ⟨wo.heap.size + 1, 4, none⟩ = some (.slice ta told.length tc) := by rw [hW1]; simp [go_sem]
      have HB1 := hide (hI.out.trans (hb1.mono hzo))
      rw [← hW1]
      clear hW1 hb1 c0 c1 c2 c3 c4 d0 d1 d2 d3 d4
      go_loopg [8] 20 (fun g s8 wr => ∃ (k : Nat), s8 = .int .i64 k ∧ told.length - k + 2 ≤ g ∧ k ≤ told.length ∧ Hid (Below W1.heap.size W1 wr))
      case atStart => exact ⟨0, rfl, by omega, by omega, Below.refl _ _⟩
      case round =>
        obtain ⟨k, rfl, hg2, hk, hJ⟩ := hrel
        have p4 := below_at hJ.out x4 (by omega)
        have q4 := below_at hJ.out y4 (by omega)
        have hw1s := HB1.out.size
        by_cases hkl : k < told.length
        · have g1 : decide ((k : Int) < (told.length : Int)) = true := by simp; omega
          have hkk : (k : Int) < (told.length : Int) := by omega
          have hw2 : IntKind.i64.wrap ((k : Int) + 1) = (k : Int) + 1 := by rw [IntKind.wrap_i64]; omega
          obtain ⟨g, rfl, hgc⟩ := Hct.out k told[k] (List.getElem?_eq_getElem hkl)
          obtain ⟨g', rfl, hgd⟩ := Hdt.out k told[k] (List.getElem?_eq_getElem hkl)
          have gc1 := below_at HB1.out hgc (lt_of_cell hgc)
          have gc2 := below_at hJ.out gc1 (lt_of_cell gc1)
          have gd1 := below_at HB1.out hgd (lt_of_cell hgd)
          have gd2 := below_at hJ.out gd1 (lt_of_cell gd1)
          clear hgc hgd gc1 gd1 x4 y4
          generalize told[k] = tv at gc2 gd2
          go_wp2_with fail
          go_quiet (fail)
          go_wp2_with fail
          go_roundg (told.length - (k + 1) + 2)
          case measure => omega
          case rel => exact ⟨k + 1, by go_num, Nat.le_refl _, by omega, below_drewN hJ.out _⟩
        · have g1 : decide ((k : Int) < (told.length : Int)) = false := by simp; omega
          go_wp2_with fail
          go_roundg (rs.length - (i + 1) + 2)
          case measure => omega
          case rel => exact ⟨i + 1, by go_num, Nat.le_refl _, by omega, HB1.out.trans (hJ.out.mono hw1s)⟩
    · have f1 : decide ((i : Int) < (rs.length : Int)) = false := by simp; omega
      go_wp2_with fail
      go_ret
      exact ⟨rfl, hI.out⟩
end Go.Proofs.Ytndlmgocldckfaa

namespace Go.Proofs.Ytndlmgocldckfaa
open Go.RowKit
set_option linter.unusedVariables false
set_option linter.unusedSimpArgs false

/-! Runs, one behind the other. -/

theorem runF_add (ks : List (List Ins)) (draws : List Int) (horizon : Int) (n : Nat) : ∀ (m : Nat) (s s1 s2 : KS) (rs1 rs2 : List Rec) (y1 y2 : Int), runF ks draws horizon m s = (s1, rs1, y1) → runF ks draws horizon n s1 = (s2, rs2, y2) → runF ks draws horizon (m + n) s = if y1 = 0 then (s2, rs1 ++ rs2, y2) else (s1, rs1, y1)
  | 0, s, s1, s2, rs1, rs2, y1, y2, h1, h2 => by
    simp only [runF, Prod.mk.injEq] at h1
    obtain ⟨rfl, rfl, rfl⟩ := h1
    rw [Nat.zero_add, h2]
    simp
  | m + 1, s, s1, s2, rs1, rs2, y1, y2, h1, h2 => by
    rw [show m + 1 + n = (m + n) + 1 by omega]
    rcases hs : stepF ks draws horizon s with ⟨t, _ | r, y⟩
    · simp only [runF, hs, Prod.mk.injEq] at h1 ⊢
      obtain ⟨rfl, rfl, rfl⟩ := h1
      have hy : y ≠ 0 := by
        unfold stepF at hs
        split at hs
        · simp at hs; omega
        · split at hs
          · simp at hs; omega
          · rcases hh : happenF ks draws _ s with ⟨t', told, y'⟩
            rw [hh] at hs
            simp only at hs
            split at hs
            · simp at hs
            · rename_i hne; simp at hs; rw [← hs.2]; exact hne
      rw [if_neg hy]
    · rcases hr : runF ks draws horizon m t with ⟨t1, rs, yy⟩
      simp only [runF, hs, hr, Prod.mk.injEq] at h1
      obtain ⟨rfl, rfl, rfl⟩ := h1
      have := runF_add ks draws horizon n m t t1 s2 rs rs2 yy y2 hr h2
      simp only [runF, hs, this]
      split <;> simp

/-- After pieces that make N steps: where it stands, what came out, why it stopped. -/
structure PcR (ks : List (List Ins)) (draws : List Int) (horizon : Int) (s0 : KS) (N : Nat) (s : KS) (rs : List Rec) (bec : Int) : Prop where
  run : runF ks draws horizon N s0 = (s, rs, bec)

theorem PcR.next {ks : List (List Ins)} {draws : List Int} {horizon : Int} {s0 s s2 : KS} {N n : Nat} {rs rs2 : List Rec} {bec why : Int} (h : PcR ks draws horizon s0 N s rs bec) (hr : runF ks draws horizon n s = (s2, rs2, why)) :
    (bec = 0 → PcR ks draws horizon s0 (N + n) s2 (rs ++ rs2) why) ∧ (bec ≠ 0 → 0 < n → s2 = s ∧ rs2 = [] ∧ why = bec ∧ PcR ks draws horizon s0 (N + n) s rs bec) ∧ (n = 0 → s2 = s ∧ rs2 = [] ∧ why = 0) := by
  have ha := runF_add ks draws horizon n N s0 s s2 rs rs2 bec why h.run hr
  refine ⟨fun h0 => ⟨?_⟩, fun h0 hn => ?_, fun hn => ?_⟩
  · rw [ha, if_pos h0]
  · obtain ⟨n', rfl⟩ : ∃ n', n = n' + 1 := ⟨n - 1, by omega⟩
    have hg := runF_again N s0 s rs bec h.run h0 n'
    rw [hr] at hg
    simp only [Prod.mk.injEq] at hg
    obtain ⟨rfl, rfl, rfl⟩ := hg
    refine ⟨rfl, rfl, rfl, ⟨?_⟩⟩
    rw [ha, if_neg h0]
  · subst hn
    simp only [runF, Prod.mk.injEq] at hr
    exact ⟨hr.1.symm, hr.2.1.symm, hr.2.2.symm⟩

theorem PcR.go {ks : List (List Ins)} {draws : List Int} {horizon : Int} {s0 s s2 : KS} {N n : Nat} {rs rs2 : List Rec} {bec why : Int} (h : PcR ks draws horizon s0 N s rs bec) (hr : runF ks draws horizon n s = (s2, rs2, why)) :
    PcR ks draws horizon s0 (N + n) s2 (rs ++ rs2) (if 0 < n then why else bec) ∧ (0 < n → bec ≠ 0 → why = bec ∧ rs2 = []) := by
  obtain ⟨h1, h2, h3⟩ := h.next hr
  by_cases hn : 0 < n
  · rw [if_pos hn]
    by_cases hb : bec = 0
    · exact ⟨h1 hb, fun _ hc => absurd hb hc⟩
    · obtain ⟨rfl, rfl, rfl, hp⟩ := h2 hb hn
      exact ⟨by simpa using hp, fun _ _ => ⟨rfl, rfl⟩⟩
  · rw [if_neg hn]
    obtain rfl : n = 0 := by omega
    obtain ⟨rfl, rfl, rfl⟩ := h3 rfl
    exact ⟨by simpa using h, fun hc => absurd hc hn⟩

theorem AllR.at {w : World} {Z : Nat} {av : Value} {L : List RecC} {rs : List Rec} (h : AllR w Z av L rs) : ∃ a cap, av = .slice a rs.length cap ∧ ∃ b, RecsAt w av rs b cap := by
  have hl := h.len
  rcases owns_row h.row with ⟨rfl, h0, _⟩ | ⟨g, cap, rfl, h1, h2, h3⟩
  · have hr : rs = [] := List.eq_nil_of_length_eq_zero (by omega)
    subst hr
    exact ⟨none, 0, rfl, 0, fun hc => absurd rfl hc, by simp⟩
  · refine ⟨some ⟨g, 0, none⟩, cap, by rw [hl], g, fun _ => by rw [hl], ?_⟩
    intro i r hr
    have hi : i < L.length := by have := (List.getElem?_eq_some_iff.1 hr).1; omega
    have hx : L[i]? = some L[i] := List.getElem?_eq_getElem hi
    obtain ⟨e1, e2, e3⟩ := h.rec_ i _ r hx hr
    have hc : ∀ (j : Nat) v, j < 5 → (L[i].cells)[j]? = some v → w.cell? ⟨g, i * 5 + j, none⟩ = some v := by
      intro j v hj hv
      have := h3 (i * 5 + j) v (by rw [recCells_get L i j hj, hx]; exact hv)
      simpa using this
    refine ⟨L[i].sa, L[i].sc, ?_, ?_, ?_, ?_, ?_, ?_⟩
    · have := hc 0 _ (by omega) rfl; rw [← e1]; simpa using this
    · have := hc 1 _ (by omega) rfl; rw [← e1]; exact this
    · have := hc 2 _ (by omega) rfl; rw [← e1]; exact this
    · have := hc 3 _ (by omega) rfl; rw [← e1]; exact this
    · have := hc 4 _ (by omega) rfl; rw [← e2]; exact this
    · intro k t ht
      rcases owns_row e3 with ⟨_, h0, _⟩ | ⟨g', cap', q1, _, _, q3⟩
      · have := (List.getElem?_eq_some_iff.1 ht).1; omega
      · simp only [Value.slice.injEq] at q1
        refine ⟨g', q1.1, ?_⟩
        have := q3 k (.int .i64 t) (by simp [ints, ht])
        simpa using this

/-- The loop over the pieces: b stands at s; all holds what came out. -/
structure RsI (lo : Nat) (L D : List Int) (horizon : Int) (s0 : KS) (w5 wr : World) (bkb bqb bmb : Nat) (bov : Value) (kb qb mb : Nat) (ov : Value) (R : Nat → Prop) (base : Nat) (av : Value) (RL : List RecC) (rs : List Rec) (N : Nat) (s : KS) (bec : Int) : Prop where
  only : Only (KSet bkb bqb bmb bov) w5 wr
  ker : KerP R base wr kb qb mb ov (entsF L) (kindsF L) (rdrawsF D) s
  base : base ≤ wr.heap.size
  ins : ∀ x, KSet kb qb mb ov x → KSet bkb bqb bmb bov x ∨ w5.heap.size ≤ x
  sep : ∀ x, AllSet av RL x → ¬ R x ∧ ¬ KSet kb qb mb ov x
  all : AllR wr w5.heap.size av RL rs
  fit : Fit (entsF L) (kindsF L) (rdrawsF D) s
  rz : RegZ (entsF L) s
  pc : PcR (kindsF L) (rdrawsF D) horizon s0 N s rs bec
  rge : ∀ x, R x → lo ≤ x

section
variable {lo : Nat} {L D : List Int} {horizon : Int} {s0 : KS} {w5 wr w' : World} {bkb bqb bmb : Nat} {bov : Value} {kb qb mb : Nat} {ov : Value} {R : Nat → Prop} {base : Nat} {av : Value} {RL : List RecC} {rs : List Rec} {N : Nat} {s : KS} {bec : Int}
theorem RsI.fresh (h : RsI lo L D horizon s0 w5 wr bkb bqb bmb bov kb qb mb ov R base av RL rs N s bec) (hb : Below wr.heap.size wr w') : RsI lo L D horizon s0 w5 w' bkb bqb bmb bov kb qb mb ov R base av RL rs N s bec :=
  ⟨h.only.trans (Only.new hb), h.ker.below hb, Nat.le_trans h.base hb.size, h.ins, h.sep, h.all.only (Only.new (S := fun _ => False) hb) (by simp), h.fit, h.rz, h.pc, h.rge⟩
theorem RsI.load {ckb cqb cmb cbase : Nat} {cov : Value} {cR : Nat → Prop} (h : RsI lo L D horizon s0 w5 wr bkb bqb bmb bov kb qb mb ov R base av RL rs N s bec) (hlo : lo ≤ w5.heap.size) (hb : Below wr.heap.size wr w') (h1 : wr.heap.size ≤ cbase ∧ cbase ≤ w'.heap.size) (h2 : ∀ x, KSet ckb cqb cmb cov x → cbase ≤ x) (h3 : ∀ x, cR x → cbase ≤ x) (h4 : KerP cR cbase w' ckb cqb cmb cov (entsF L) (kindsF L) (rdrawsF D) s) :
    RsI lo L D horizon s0 w5 w' bkb bqb bmb bov ckb cqb cmb cov cR cbase av RL rs N s bec := by
  have hz := h.only.size
  refine ⟨h.only.trans (Only.new hb), h4, h1.2, fun x hx => .inr (by have := h2 x hx; omega), fun x hx => ⟨fun hc => ?_, fun hc => ?_⟩, h.all.only (Only.new (S := fun _ => False) hb) (by simp), h.fit, h.rz, h.pc, fun x hx => by have := h3 x hx; omega⟩
  · have := h3 x hc; have := (h.all.lt x hx).2; omega
  · have := h2 x hc; have := (h.all.lt x hx).2; omega
end

theorem RunOut.all {w w' : World} {kb qb mb Z : Nat} {ov lv : Value} {L : List RecC} {rs : List Rec} (h : RunOut w w' kb qb mb ov lv L rs) (hZ : Z ≤ w.heap.size) : AllR w' Z lv L rs := by
  refine ⟨h.len, owns_base h.row hZ, fun j x r hx hr => ?_, fun x hx b hb => ?_⟩
  · obtain ⟨h1, h2, h3⟩ := h.rec_ j x r hx hr
    exact ⟨h1, h2, owns_base h3 hZ⟩
  · obtain ⟨j, hj⟩ := List.getElem?_of_mem hx
    exact (h.tsep j x b hj hb).2
theorem RunOut.ksep {w w' : World} {kb qb mb : Nat} {ov lv : Value} {L : List RecC} {rs : List Rec} (h : RunOut w w' kb qb mb ov lv L rs) : ∀ b, AllSet lv L b → ¬ KSet kb qb mb ov b := by
  rintro b (hb | ⟨x, hx, hb⟩)
  · exact h.lsep b hb
  · obtain ⟨j, hj⟩ := List.getElem?_of_mem hx
    exact (h.tsep j x b hj hb).1
theorem RunOut.new {w w' : World} {kb qb mb : Nat} {ov lv : Value} {L : List RecC} {rs : List Rec} (h : RunOut w w' kb qb mb ov lv L rs) : ∀ b, AllSet lv L b → w.heap.size ≤ b := fun b hb => ((h.all (Nat.le_refl _)).lt b hb).1
end Go.Proofs.Ytndlmgocldckfaa

namespace Go.Proofs.Ytndlmgocldckfaa
open Go.RowKit
set_option linter.unusedVariables false
set_option linter.unusedSimpArgs false

theorem begunF_regz (L : List Int) (P : List PlanR) : RegZ (entsF L) (begunF L P) := by
  have : ∀ (Q : List PlanR) (s : KS), RegZ (entsF L) s → RegZ (entsF L) (plansF (entsF L) (kindsF L).length Q s) := by
    intro Q
    induction Q with
    | nil => intro s h; exact h
    | cons p Q ih => intro s h; exact ih _ h
  exact this _ _ (fun j _ => rfl)

set_option maxRecDepth 100000 in
set_option maxHeartbeats 4000000 in
theorem resumed_any (sa da pa ia : Option Addr) (sc dc pc ic : Nat) (L D I : List Int) (P : List PlanR) (horizon : Int) (w : World) (hL : RawL w sa L) (hD : RawL w da D) (hP : RawPl w pa P) (hIn : RawL w ia I) :
    Calls Try.prog 4 #[.agg #[.slice sa L.length sc, .slice da D.length dc, .slice pa P.length pc], .slice ia I.length ic, .int .i64 horizon] w fun e w' => e = .returned (.bool true) ∧ Below w.heap.size w w' := by
  have HL := hide hL
  have HD := hide hD
  have HP := hide hP
  have HI := hide hIn
  clear hL hD hP hIn
  go_enter Try.func4, Try.ntmps4
  go_wp2_with fail
  obtain ⟨W0, hW0⟩ : ∃ W0, W0 = w.alloc (.cells #[.slice sa L.length sc, .slice da D.length dc, .slice pa P.length pc] 25) := ⟨_, rfl⟩
  have hb0 : Below w.heap.size w W0 := by rw [hW0]; exact (Below.refl _ _).alloc (Nat.le_refl _) _
  have hz0 : W0.heap.size = w.heap.size + 1 := by rw [hW0]; simp
  have x0 : W0.cell? ⟨w.heap.size, 0, none⟩ = some (.slice sa L.length sc) := by rw [hW0]; simp [go_sem]
  have x1 : W0.cell? ⟨w.heap.size, 1, none⟩ = some (.slice da D.length dc) := by rw [hW0]; simp [go_sem]
  have x2 : W0.cell? ⟨w.heap.size, 2, none⟩ = some (.slice pa P.length pc) := by rw [hW0]; simp [go_sem]
  rw [← hW0]
  clear hW0
  refine (begun_any sa da pa sc dc pc L D P W0 (HL.out.below hb0) (HD.out.below hb0) (HP.out.below hb0)).mono ?_
  rintro e w1 ⟨akb, aqb, amb, aov, aR, abase, rfl, hA⟩
  have hz1 := hA.below.size
  have ha1 := hA.base
  have HB1 := hide (hb0.trans (hA.below.mono (by omega)))
  have y0 := below_at hA.below x0 (by omega)
  have y1 := below_at hA.below x1 (by omega)
  have y2 := below_at hA.below x2 (by omega)
  have HA := hide hA
  clear hA hb0 x0 x1 x2
  go_wp2_with fail
  refine (begun_any sa da pa sc dc pc L D P w1 (HL.out.below HB1.out) (HD.out.below HB1.out) (HP.out.below HB1.out)).mono ?_
  rintro e w2 ⟨bkb, bqb, bmb, bov, bR, bbase, rfl, hB⟩
  have hz2 := hB.below.size
  have hb1 := hB.base
  have HB2 := hide (HB1.out.trans (hB.below.mono (by omega)))
  have z0 := below_at hB.below y0 (by omega)
  have z1 := below_at hB.below y1 (by omega)
  have HB := hide hB
  clear hB y0 y1 y2
  go_wp2_with fail
  obtain ⟨W3, hW3⟩ : ∃ W3, W3 = w2.alloc (.cells #[.slice sa L.length sc, .int .i64 0] 44) := ⟨_, rfl⟩
  have hb3 : Below w2.heap.size w2 W3 := by rw [hW3]; exact (Below.refl _ _).alloc (Nat.le_refl _) _
  have hz3 : W3.heap.size = w2.heap.size + 1 := by rw [hW3]; simp
  have HL3 := (HL.out.below HB2.out).below hb3
  have hraw : RawP W3 w2.heap.size sa sc L 0 := by
    refine ⟨by rw [hW3]; simp [go_sem], by rw [hW3]; simp [go_sem], ?_, fun i hi => ?_, by omega, HL3.1, HL3.2.1⟩
    · rw [hW3]
      intro j hj
      have : j = 0 ∨ j = 1 := by omega
      rcases this with rfl | rfl <;> simp [go_sem]
    · obtain ⟨b, off, e1, e2⟩ := HL3.2.2 i hi
      obtain ⟨b', off', e1', e2'⟩ := HL.out.2.2 i hi
      rw [e1] at e1'
      simp only [Option.some.injEq, Addr.mk.injEq] at e1'
      have := lt_of_cell e2'
      exact ⟨b, off, e1, by omega, e2⟩
  rw [← hW3]
  clear hW3
  refine (model_any w2.heap.size sa sc L W3 hraw).mono ?_
  rintro e w4 ⟨kv, rfl, ho4, hK4⟩
  have hz4 := ho4.size
  have hb24 : Below w2.heap.size w2 w4 := hb3.trans (ho4.below (by omega) (by intro k hk; omega))
  have z1' := below_at hb24 z1 (by omega)
  have hK4' := hK4
  obtain ⟨kb0, koff, kcap, hkv, hkb, hKA⟩ := hK4.at (B := w4.heap.size) (by have := nkF_le L; have := kindsF_len L; omega) (fun b hb => by omega)
  subst hkv
  have HK4 := hide hK4'
  have Hb24 := hide hb24
  clear hb3 HL3 hraw ho4 hK4 hKA hb24 z0 z1 hK4'
  have A1 : ∀ o, (w4.alloc o).cell? ⟨w.heap.size, 1, none⟩ = some (.slice da D.length dc) := fun o => below_at ((Below.refl w4.heap.size w4).alloc (Nat.le_refl _) o) z1' (by omega)
  go_wp2_with fail
  obtain ⟨W4, hW4⟩ : ∃ W4, W4 = w4.alloc (.cells #[.int .i64 (entsF L), .slice (some ⟨kb0, koff, none⟩) (kindsF L).length kcap] 40) := ⟨_, rfl⟩
  have hb4 : Below w4.heap.size w4 W4 := by rw [hW4]; exact (Below.refl _ _).alloc (Nat.le_refl _) _
  have hzW4 : W4.heap.size = w4.heap.size + 1 := by rw [hW4]; simp
  have m0 : W4.cell? ⟨w4.heap.size, 0, none⟩ = some (.int .i64 (entsF L)) := by rw [hW4]; simp [go_sem]
  have m1 : W4.cell? ⟨w4.heap.size, 1, none⟩ = some (.slice (some ⟨kb0, koff, none⟩) (kindsF L).length kcap) := by rw [hW4]; simp [go_sem]
  rw [← hW4]
  clear hW4 A1
  have Hb2W : Hid (Below w2.heap.size w2 W4) := Hb24.out.trans (hb4.mono (by omega))
  have HBW : Hid (Below w.heap.size w W4) := HB2.out.trans (Hb2W.out.mono (by omega))
  have HKW : Hid (KindsIn (fun b => W3.heap.size ≤ b ∧ b < w4.heap.size) W4 (.slice (some ⟨kb0, koff, none⟩) (kindsF L).length kcap) (kindsF L)) := HK4.out.only (Only.new (S := fun _ => False) hb4) (by simp)
  have HD4 := HD.out.below HBW.out
  refine (draws_any da dc D W4 HD4.1 HD4.2.1 HD4.2.2).mono ?_
  rintro e w5 ⟨dv, rfl, hb5, hown5⟩
  obtain ⟨da5, dc5, rfl⟩ := owns_formA hown5
  have hz5 := hb5.size
  have m0' := below_at hb5 m0 (by omega)
  have m1' := below_at hb5 m1 (by omega)
  have hdl := rdrawsF_len D
  have Hdi : Hid (IntsIn (fun b => w2.heap.size ≤ b ∧ b < w5.heap.size) w5 (.slice da5 (rdrawsF D).length dc5) (rdrawsF D)) := (owns_ints hown5 (by omega)).mono (fun b hb => by omega)
  have HK5 : Hid (KindsIn (fun b => w2.heap.size ≤ b ∧ b < w5.heap.size) w5 (.slice (some ⟨kb0, koff, none⟩) (kindsF L).length kcap) (kindsF L)) := (HKW.out.only (Only.new (S := fun _ => False) hb5) (by simp)).mono (fun b hb => by omega)
  have Hb25 : Hid (Below w2.heap.size w2 w5) := Hb2W.out.trans (hb5.mono (by omega))
  have HB5 : Hid (Below w.heap.size w w5) := HBW.out.trans (hb5.mono (by omega))
  clear hb4 HKW HD4 hb5 hown5 m0 m1 HK4 z1'
  go_wp2_with fail
  have hE := entsF_le L
  have hNK := nkF_le L
  have hNL := kindsF_len L
  obtain ⟨E, hEE⟩ := Int.eq_ofNat_of_zero_le (show 0 ≤ entsF L by omega)
  have hE8 : 1 ≤ E ∧ E ≤ 8 := by omega
  have HEE := hide hEE
  clear hEE
  have hf0 := begunF_facts L D P
  have Hset : Hid (∀ x, KSet bkb bqb bmb bov x → w1.heap.size ≤ x ∧ x < w2.heap.size) := fun x hx => ⟨by have := HB.out.kset x hx; omega, HB.out.ker.lt x hx⟩
  have hz25 := Hb25.out.size
  have HI5 : Hid (RsI w1.heap.size L D horizon (begunF L P) w5 w5 bkb bqb bmb bov bkb bqb bmb bov bR bbase (.slice none 0 0) [] [] 0 (begunF L P) 0) := by
    refine ⟨Only.refl _ _, HB.out.ker.below Hb25.out, by omega, fun x hx => .inl hx, ?_, AllR.nil _ _, hf0.1, begunF_regz L P, ⟨rfl⟩, fun x hx => by have := HB.out.rset x hx; omega⟩
    rintro x (hx | ⟨y, hy, _⟩)
    · simp [Value.ownBlock] at hx
    · simp at hy
  have HAk : Hid (KerP aR abase w5 akb aqb amb aov (entsF L) (kindsF L) (rdrawsF D) (begunF L P)) := (HA.out.ker.below HB.out.below).below Hb25.out
  have HAs : Hid (∀ x, KSet akb aqb amb aov x ∨ aR x → x < w1.heap.size) := by
    rintro x (hx | hx)
    · exact HA.out.ker.lt x hx
    · exact HA.out.ker.rlt x hx
  have Hm0 := hide m0'
  have Hm1 := hide m1'
  clear m0' m1'
  go_loopg [8, 11, 12, 13, 14] 23 (fun gf s8 s11 s12 s13 s14 wx => ∃ (i N : Nat) (kb qb mb : Nat) (ov : Value) (R : Nat → Prop) (base : Nat) (RL : List RecC) (rs : List Rec) (s : KS) (bec : Int) (aa : Option Addr) (ac : Nat), s11 = .slice aa rs.length ac ∧ s14 = .int .i64 i ∧ s8 = .pointer (some ⟨kb, 0, none⟩) ∧ s12 = .int .i64 N ∧ s13 = .int .i64 bec ∧ 21 - i + 1 ≤ gf ∧ i ≤ 20 ∧ i ≤ I.length ∧ N ≤ i * 19 ∧ Hid (RsI w1.heap.size L D horizon (begunF L P) w5 wx bkb bqb bmb bov kb qb mb ov R base (.slice aa rs.length ac) RL rs N s bec))
  case atStart => exact ⟨0, 0, bkb, bqb, bmb, bov, bR, bbase, [], [], begunF L P, 0, none, 0, rfl, rfl, rfl, rfl, rfl, by omega, by omega, by omega, by omega, HI5.out⟩
  case round =>
    obtain ⟨i, N, kb, qb, mb, ov, R, base, RL, rs, s, bec, aa, ac, rfl, rfl, rfl, rfl, rfl, hgf, hi1, hi2, hN, hI⟩ := hrel
    have hzr := hI.out.only.size
    by_cases hi : i < I.length
    · by_cases hi3 : i < 20
      · have d1 : decide ((i : Int) < (I.length : Int)) = true := by simp; omega
        have d2 : decide ((i : Int) < 20) = true := by simp; omega
        have hii : (i : Int) < (I.length : Int) := by omega
        have hwi : IntKind.i64.wrap ((i : Int) + 1) = (i : Int) + 1 := by rw [IntKind.wrap_i64]; omega
        obtain ⟨ib, ioff, hia, ic0⟩ := (HI.out.below HB5.out).2.2 i hi
        have hix := HI.out.2.1 I[i] (List.getElem_mem hi)
        obtain rfl := hia
        have ic1 : wr.cell? ⟨ib, ioff + i, none⟩ = some (.int .i64 I[i]) := by
          obtain ⟨ib', ioff', he1, he2⟩ := HI.out.2.2 i hi
          simp only [Option.some.injEq, Addr.mk.injEq] at he1
          obtain ⟨rfl, rfl, _⟩ := he1
          exact hI.out.only.at ic0 (fun hc => by have := (Hset.out _ hc).1; have := lt_of_cell he2; omega)
        obtain ⟨n, hn⟩ := Int.eq_ofNat_of_zero_le (pickF_lt I[i] (n := 20) (by omega)).1
        have hn19 : n ≤ 19 := by have := (pickF_lt I[i] (n := 20) (by omega)).2; omega
        have hwN : IntKind.i64.wrap ((N : Int) + (n : Int)) = ((N + n : Nat) : Int) := by rw [IntKind.wrap_i64]; omega
        generalize I[i] = ix at hix ic1 hn
        have HRA := hide (runF_all (kindsF_ok L) (rdrawsF_ok D) horizon n s hI.out.fit)
        have HRz := hide (runF_regz (kindsF_ok L) (rdrawsF_ok D) horizon n s hI.out.fit hI.out.rz)
        rcases hrun : runF (kindsF L) (rdrawsF D) horizon n s with ⟨s2, rs2, why⟩
        rw [hrun] at HRA HRz
        simp only at HRA HRz
        have HPc := hide (hI.out.pc.go hrun)
        have HX := hide (run_ok n horizon wr hI.out.ker hI.out.fit.ok (by omega) (by omega) (by omega) hI.out.base (kindsF_ok L) (rdrawsF_ok D) s2 rs2 why hrun)
        clear ic0 hrun
        go_wp2_with (go_at_call 10; refine (pick_any _ _ _ hix (by omega)).mono ?_; rintro e w0 ⟨rfl, rfl⟩; rw [hn])
        refine HX.out.mono ?_
        rintro e w6 ⟨lv, ov6, RL6, rfl, ho6, hm6, hk6, hok6, hout6⟩
        have hz6 := ho6.size
        obtain ⟨la, lcap, hlv, _⟩ := hout6.at
        subst hlv
        -- what the run has left
        have Hsep6 : Hid (∀ x, AllSet (.slice aa rs.length ac) RL x → ¬ R x ∧ ¬ KSet kb qb mb ov6 x) := by
          intro x hx
          have h1 := hI.out.sep x hx
          have h2 := (hI.out.all.lt x hx).2
          refine ⟨h1.1, kset_moved hm6 h2 h1.2⟩
        have HA6 := hide (hI.out.all.only ho6 (fun x hx => (hI.out.sep x hx).2))
        have HL6 : Hid (AllR w6 w5.heap.size (.slice la rs2.length lcap) RL6 rs2) := hout6.all (by omega)
        have Hnew6 := hide hout6.new
        have Hks6 := hide hout6.ksep
        have HO6 : Hid (Only (KSet bkb bqb bmb bov) w5 w6) := hI.out.only.chain ho6 (fun x hx hc => (hI.out.ins x hc).resolve_right (by omega))
        have Hins6 : Hid (∀ x, KSet kb qb mb ov6 x → KSet bkb bqb bmb bov x ∨ w5.heap.size ≤ x) := by
          rintro x (hc | hc | hc | hc)
          · exact hI.out.ins x (.inl hc)
          · exact hI.out.ins x (.inr (.inl hc))
          · exact hI.out.ins x (.inr (.inr (.inl hc)))
          · rcases hm6 with e | ⟨g', e, hg'⟩
            · exact hI.out.ins x (.inr (.inr (.inr (hc.trans e))))
            · rw [e] at hc; simp at hc; exact .inr (by omega)
        have Hrlt := hide hI.out.ker.rlt
        have Hbase := hide hI.out.base
        have Hk6 := hide hk6
        have Hok6 := hide hok6
        have hl2 : rs2.length ≤ 19 := by have := HRA.out.len; omega
        have Hlen6 := hide HL6.out.len
        have hls : rs.length ≤ 380 := by
          have hx := runF_length (kindsF L) (rdrawsF D) horizon N (begunF L P)
          rw [hI.out.pc.run] at hx
          simp only at hx
          omega
        have HlenR := hide hI.out.all.len
        have Hsrc : Hid (SrcAt w6 (.slice la rs2.length lcap) RL6.length (recCells RL6)) := by
          rcases owns_row HL6.out.row with ⟨e1, e2, e3⟩ | ⟨g1, c1, e1, e2, e3, e4⟩
          · simp only [Value.slice.injEq] at e1
            exact .inl ⟨by rw [e1.1, e1.2.1, e1.2.2], e2, e3⟩
          · simp only [Value.slice.injEq] at e1
            exact .inr (.inl ⟨g1, 0, lcap, by rw [e1.1, Hlen6.out], e4⟩)
        have hRL6 : RL6.length ≤ 19 := by have := Hlen6.out; omega
        have hRL : RL.length ≤ 380 := by have := HlenR.out; omega
        obtain ⟨rsN, hrsN⟩ : ∃ rsN, rsN = rs ++ rs2 := ⟨_, rfl⟩
        obtain ⟨RLN, hRLN⟩ : ∃ RLN, RLN = RL ++ RL6 := ⟨_, rfl⟩
        obtain ⟨bN, hbN⟩ : ∃ bN, bN = if 0 < n then why else bec := ⟨_, rfl⟩
        have HI7 : Hid (∀ av' w7, w7.ownsRow w5.heap.size 36 5 av' (RL.length + RL6.length) (recCells RL ++ recCells RL6) → w6.grownBy w7 (Value.slice aa rs.length ac).ownBlock → (av'.ownBlock = (Value.slice aa rs.length ac).ownBlock ∨ av'.ownBlock = some w6.heap.size) →
            RsI w1.heap.size L D horizon (begunF L P) w5 w7 bkb bqb bmb bov kb qb mb ov6 R base av' RLN rsN (N + n) s2 bN) := by
          intro av' w7 hown hgr hwh
          rw [hrsN, hRLN, hbN]
          have ho7 : Only (fun x => some x = (Value.slice aa rs.length ac).ownBlock) w6 w7 := Only.ofGrown hgr
          have hz7 := ho7.size
          have hdis : ∀ x ∈ RL6, ∀ y, some y = (Value.slice x.sa x.n x.sc).ownBlock → some y ≠ (Value.slice aa rs.length ac).ownBlock := by
            intro x hx y hy hc
            have h1 := Hnew6.out y (.inr ⟨x, hx, hy⟩)
            have h2 := (hI.out.all.lt y (.inl hc)).2
            omega
          refine ⟨?_, ?_, by have := Hbase.out; omega, Hins6.out, ?_, HA6.out.app HL6.out hgr hown hwh hdis, HRA.out.fit, HRz.out, HPc.out.1, hI.out.rge⟩
          · refine HO6.out.chain ho7 (fun x hx hc => ?_)
            have := (HA6.out.lt x (.inl hc)).1
            omega
          · exact Hk6.out.only ho7 (fun x hx hc => (Hsep6.out x (.inl hc)).2 hx) (fun x hx hc => (Hsep6.out x (.inl hc)).1 hx)
          · have key : ∀ x, AllSet (.slice aa rs.length ac) RL x ∨ AllSet (.slice la rs2.length lcap) RL6 x → ¬ R x ∧ ¬ KSet kb qb mb ov6 x := by
              rintro x (hx | hx)
              · exact Hsep6.out x hx
              · refine ⟨fun hc => ?_, Hks6.out x hx⟩
                have h1 := Hnew6.out x hx
                have h2 := Hrlt.out x hc
                omega
            rintro x (hx | ⟨y, hy, hx⟩)
            · rcases hwh with e | e
              · exact key x (.inl (.inl (hx.trans e)))
              · rw [e] at hx
                simp at hx
                subst hx
                refine ⟨fun hc => ?_, fun hc => ?_⟩
                · have := Hrlt.out _ hc; omega
                · have := Hk6.out.lt _ hc; omega
            · rcases List.mem_append.1 hy with hy | hy
              · exact key x (.inl (.inr ⟨y, hy, hx⟩))
              · exact key x (.inr (.inr ⟨y, hy, hx⟩))
        have hbc1 : 0 < n → bN = why := fun h => by rw [hbN, if_pos h]
        have hbc2 : ¬ 0 < n → bN = bec := fun h => by rw [hbN, if_neg h]
        have HlN : Hid (RL.length + RL6.length = rsN.length) := by
          show _ = _
          rw [hrsN, List.length_append, HlenR.out, Hlen6.out]
        clear hm6 ho6 hk6 hok6 hout6 HX hrsN hRLN hbN
        have hcase : (n = 0 ∧ bN = bec ∧ decide (0 < (n : Int)) = false) ∨ (0 < n ∧ bec = 0 ∧ bN = why ∧ decide (0 < (n : Int)) = true) ∨ (0 < n ∧ bec ≠ 0 ∧ (bec == 0) = false ∧ why = bec ∧ rs2 = [] ∧ bN = why ∧ decide (0 < (n : Int)) = true) := by
          by_cases h0 : 0 < n
          · have hd1 : decide (0 < (n : Int)) = true := by rw [decide_eq_true_eq]; omega
            by_cases hb : bec = 0
            · exact .inr (.inl ⟨h0, hb, hbc1 h0, hd1⟩)
            · obtain ⟨e1, e2⟩ := HPc.out.2 h0 hb
              exact .inr (.inr ⟨h0, hb, by rw [beq_eq_false_iff_ne]; exact hb, e1, e2, hbc1 h0, hd1⟩)
          · exact .inl ⟨by omega, hbc2 h0, by rw [decide_eq_false_iff_not]; omega⟩
        have hap : (RL.length + RL6.length) * 56 ≤ 140737488355328 := by omega
        rcases hcase with ⟨rfl, rfl, c1⟩ | ⟨h0, rfl, rfl, c1⟩ | ⟨h0, hb, c2, rfl, rfl, rfl, c1⟩
        all_goals
          clear hbc1 hbc2
          go_wp2_with (at_builtin; refine wpList_append_src rfl (.tmp 93) (.tmp 94) 29 rfl w5.heap.size 36 (.agg #[.int .i64 0, .int .i64 0, .int .i64 0, .int .i64 0, .slice none 0 0]) 5 56 Try.underlying29 Try.infoR rfl (by omega) _ RL.length (recCells RL) rfl HA6.out.row _ RL6.length (recCells RL6) rfl Hsrc.out (recCells_length _) (recCells_one _) (by omega) (by omega) (by omega) ?_)
          intro av7 w7 hown7 hgr7 hwh7
          have HR7 := hide (HI7.out av7 w7 hown7.out hgr7.out hwh7.out)
          obtain ⟨aa7, ac7, hav7⟩ : ∃ aa7 ac7, av7 = .slice aa7 rsN.length ac7 := by
            obtain ⟨x1, x2, h⟩ := owns_formA hown7.out
            exact ⟨x1, x2, by rw [h, HlN.out]⟩
          subst hav7
          have hz7 := HR7.out.only.size
          clear hown7 hgr7 hwh7 Hsrc
          have HSv := hide (save_any kb qb mb ov6 (entsF L) (kindsF L) (rdrawsF D) s2 w7 HR7.out.ker HR7.out.fit.ok (by omega) (by omega) hdl.1 HR7.out.fit.q.sorted)
          go_wp2_with fail
          refine HSv.out.mono ?_
          rintro e w8 ⟨pv, rfl, hb8, hrow8⟩
          obtain ⟨pg, pcap, hpv⟩ := hrow8.form
          subst hpv
          have hz8 := hb8.size
          have HR8 := hide (HR7.out.fresh hb8)
          have p0 : w8.cell? ⟨w4.heap.size, 0, none⟩ = some (.int .i64 (entsF L)) := HR8.out.only.at Hm0.out (fun hc => by have := (Hset.out _ hc).2; omega)
          have p1 : w8.cell? ⟨w4.heap.size, 1, none⟩ = some (.slice (some ⟨kb0, koff, none⟩) (kindsF L).length kcap) := HR8.out.only.at Hm1.out (fun hc => by have := (Hset.out _ hc).2; omega)
          have hKin := HK5.out.only HR8.out.only (fun x hx hc => by have := (Hset.out _ hc).2; omega)
          have hDin := Hdi.out.only HR8.out.only (fun x hx hc => by have := (Hset.out _ hc).2; omega)
          have hz58 := HR8.out.only.size
          obtain ⟨kb1, koff1, kcap1, hkv1, hkb1, hKA1⟩ := hKin.at (B := w8.heap.size) (by omega) (fun x hx => by omega)
          simp only [Value.slice.injEq, Option.some.injEq, Addr.mk.injEq] at hkv1
          obtain ⟨⟨hk1, hk2, _⟩, _, hk3⟩ := hkv1
          subst hk1
          subst hk2
          subst hk3
          have HLd : Hid (Calls Try.prog 16 #[.agg #[.int .i64 (entsF L), .slice (some ⟨kb0, koff, none⟩) (kindsF L).length kcap], .slice da5 (rdrawsF D).length dc5, .slice (some ⟨pg, 0, none⟩) (saveF (entsF L) (kindsF L).length s2).length pcap] w8 fun e w' => ∃ kb qb mb ov R base, e = .returned (.tuple #[.pointer (some ⟨kb, 0, none⟩), .int .i64 0]) ∧ Below w8.heap.size w8 w' ∧ (w8.heap.size ≤ base ∧ base ≤ w'.heap.size) ∧ (∀ x, KSet kb qb mb ov x → base ≤ x) ∧ (∀ x, R x → base ≤ x) ∧ KerP R base w' kb qb mb ov (entsF L) (kindsF L) (rdrawsF D) s2) := by
            obtain ⟨g', cap', he', _, hg2, hrw⟩ := hrow8.row
            simp only [Value.slice.injEq, Option.some.injEq, Addr.mk.injEq] at he'
            obtain ⟨⟨rfl, _⟩, _, rfl⟩ := he'
            obtain ⟨g'', cap'', cur, fz, he'', _, _, _, hcl, _⟩ := hrow8
            simp only [Value.slice.injEq, Option.some.injEq, Addr.mk.injEq] at he''
            obtain ⟨_, _, rfl⟩ := he''
            have hlen := saveF_length (entsF L) (kindsF L).length s2
            have := load_ok E kb0 koff kcap (.slice da5 (rdrawsF D).length dc5) (kindsF L) (rdrawsF D) s2 pg pcap w8 (by omega) hkb1 hKA1 (hDin.mono (fun x hx => by omega)) (by rw [← HEE.out]; exact kindsF_none L) (rdrawsF_draws D) (by rw [← HEE.out]; exact HR8.out.fit) (by rw [← HEE.out]; exact HR8.out.rz) hE8 hdl.1 (by rw [← HEE.out]; exact hrw) (by rw [← HEE.out]; omega) hg2
            rw [← HEE.out, ← hlen] at this
            exact this
          have Hrow8 := hide hrow8
          clear hKin hDin hKA1 hb8 hrow8 HSv
          go_wp2_with fail
          refine HLd.out.mono ?_
          rintro e w9 ⟨ckb, cqb, cmb, cov, cR, cbase, rfl, hb9, hc1, hc2, hc3, hc4⟩
          have hz9 := hb9.size
          have HR9 := hide (HR8.out.load (by omega) hb9 hc1 hc2 hc3 hc4)
          have Hrow9 := hide (Hrow8.out.keep (Only.new (S := fun _ => False) hb9) (by simp))
          have HSv2 := hide (save_any ckb cqb cmb cov (entsF L) (kindsF L) (rdrawsF D) s2 w9 HR9.out.ker HR9.out.fit.ok (by omega) (by omega) hdl.1 HR9.out.fit.q.sorted)
          clear hb9 hc1 hc2 hc3 hc4 HLd p0 p1
          go_wp2_with fail
          refine HSv2.out.mono ?_
          rintro e w10 ⟨qv, rfl, hb10, hrow10⟩
          obtain ⟨qg, qcap, hqv⟩ := hrow10.form
          subst hqv
          have HR10 := hide (HR9.out.fresh hb10)
          have hcv1 := conv_str hrow10 (saveF_bytes HR9.out.fit.ok (by omega) (by omega) hdl.1 HR9.out.fit.q.sorted)
          have hcv2 := conv_str (Hrow9.out.keep (Only.new (S := fun _ => False) hb10) (by simp)) (saveF_bytes HR9.out.fit.ok (by omega) (by omega) hdl.1 HR9.out.fit.q.sorted)
          clear hb10 hrow10 HSv2
          go_wp2_with fail
          go_roundg (21 - (i + 1) + 1)
          case measure => omega
          case rel => exact ⟨i + 1, _, ckb, cqb, cmb, cov, cR, cbase, RLN, rsN, s2, _, aa7, ac7, rfl, by go_num, rfl, rfl, rfl, Nat.le_refl _, by omega, by omega, by omega, HR10.out⟩
      · have d1 : decide ((i : Int) < (I.length : Int)) = true := by simp; omega
        have d2 : decide ((i : Int) < 20) = false := by simp; omega
        have HRA := hide (runF_all (kindsF_ok L) (rdrawsF_ok D) horizon N (begunF L P) hf0.1)
        rw [hI.out.pc.run] at HRA
        simp only at HRA
        have hka := HAk.out.only hI.out.only (fun x hx hc => by have := HAs.out x (.inl hx); have := (Hset.out x hc).1; omega) (fun x hx hc => by have := HAs.out x (.inr hx); have := (Hset.out x hc).1; omega)
        have HX := hide (run_ok N horizon wr hka hf0.1.ok (by omega) (by omega) (by omega) (by omega) (kindsF_ok L) (rdrawsF_ok D) s rs bec hI.out.pc.run)
        have hrl : rs.length ≤ 1000 := by have := HRA.out.len; omega
        clear hka
        go_wp2_with fail
        refine HX.out.mono ?_
        rintro e w6 ⟨lv, ov6, RL6, rfl, ho6, hm6, hk6, hok6, hout6⟩
        have hz6 := ho6.size
        obtain ⟨la, lcap, hlv, lb, hlat⟩ := hout6.at
        subst hlv
        have Hall6 := hide (hI.out.all.only ho6 (fun x hx hc => by have := (hI.out.all.lt x hx).1; have := HAs.out x (.inl hc); omega))
        obtain ⟨aa6, ac6, hav6, ab6, haat⟩ := Hall6.out.at
        simp only [Value.slice.injEq] at hav6
        obtain ⟨hq1, _, hq3⟩ := hav6
        subst hq1
        subst hq3
        have HSm := hide (same_any la aa lcap ac lb ab6 rs w6 hrl (fun r hr => (HRA.out.each r hr).2.2.2) hlat haat)
        have Hkb6 := hide (hI.out.ker.only ho6 (fun x hx hc => by
          have h1 := HAs.out x (.inl hc)
          rcases hI.out.ins x hx with h | h
          · have := (Hset.out x h).1; omega
          · omega) (fun x hx hc => by have := HAs.out x (.inl hc); have := hI.out.rge x hx; omega))
        have HB6 : Hid (Below w.heap.size w w6) := (HB5.out.trans (hI.out.only.below (by omega) (fun x hx hc => by have := (Hset.out x hc).1; omega))).trans (ho6.below (by omega) (fun x hx hc => by have := HA.out.kset x hc; omega))
        have Hk6 := hide hk6
        clear ho6 hm6 hk6 hok6 hout6 hlat haat HX
        go_wp2_with fail
        refine HSm.out.mono ?_
        rintro e w7 ⟨rfl, hb7⟩
        have hz7 := hb7.size
        have HB7 := hide (HB6.out.trans (hb7.mono (by omega)))
        have HSa := hide (save_any akb aqb amb ov6 (entsF L) (kindsF L) (rdrawsF D) s w7 (Hk6.out.below hb7) hI.out.fit.ok (by omega) (by omega) hdl.1 hI.out.fit.q.sorted)
        have Hkb7 := hide (Hkb6.out.below hb7)
        clear hb7 HSm
        go_wp2_with fail
        refine HSa.out.mono ?_
        rintro e w8 ⟨pv, rfl, hb8, hrow8⟩
        obtain ⟨pg, pcap, hpv⟩ := hrow8.form
        subst hpv
        have hz8 := hb8.size
        have HB8 := hide (HB7.out.trans (hb8.mono (by omega)))
        have HSb := hide (save_any kb qb mb ov (entsF L) (kindsF L) (rdrawsF D) s w8 (Hkb7.out.below hb8) hI.out.fit.ok (by omega) (by omega) hdl.1 hI.out.fit.q.sorted)
        have Hrow8 := hide hrow8
        clear hb8 hrow8 HSa
        go_wp2_with fail
        refine HSb.out.mono ?_
        rintro e w9 ⟨qv, rfl, hb9, hrow9⟩
        obtain ⟨qg, qcap, hqv⟩ := hrow9.form
        subst hqv
        have hz9 := hb9.size
        have HB9 := hide (HB8.out.trans (hb9.mono (by omega)))
        have hcv1 := conv_str (Hrow8.out.keep (Only.new (S := fun _ => False) hb9) (by simp)) (saveF_bytes hI.out.fit.ok (by omega) (by omega) hdl.1 hI.out.fit.q.sorted)
        have hcv2 := conv_str hrow9 (saveF_bytes hI.out.fit.ok (by omega) (by omega) hdl.1 hI.out.fit.q.sorted)
        clear hb9 hrow9 HSb Hrow8
        by_cases hN0 : N = 0
        · subst hN0
          go_wp2_with fail
          go_ret
          exact ⟨rfl, HB9.out⟩
        · have hN1 : ((N : Int) == 0) = false := by rw [beq_eq_false_iff_ne]; omega
          go_wp2_with fail
          go_ret
          exact ⟨rfl, HB9.out⟩
    · have d1 : decide ((i : Int) < (I.length : Int)) = false := by simp; omega
      have HRA := hide (runF_all (kindsF_ok L) (rdrawsF_ok D) horizon N (begunF L P) hf0.1)
      rw [hI.out.pc.run] at HRA
      simp only at HRA
      have hka := HAk.out.only hI.out.only (fun x hx hc => by have := HAs.out x (.inl hx); have := (Hset.out x hc).1; omega) (fun x hx hc => by have := HAs.out x (.inr hx); have := (Hset.out x hc).1; omega)
      have HX := hide (run_ok N horizon wr hka hf0.1.ok (by omega) (by omega) (by omega) (by omega) (kindsF_ok L) (rdrawsF_ok D) s rs bec hI.out.pc.run)
      have hrl : rs.length ≤ 1000 := by have := HRA.out.len; omega
      clear hka
      go_wp2_with fail
      refine HX.out.mono ?_
      rintro e w6 ⟨lv, ov6, RL6, rfl, ho6, hm6, hk6, hok6, hout6⟩
      have hz6 := ho6.size
      obtain ⟨la, lcap, hlv, lb, hlat⟩ := hout6.at
      subst hlv
      have Hall6 := hide (hI.out.all.only ho6 (fun x hx hc => by have := (hI.out.all.lt x hx).1; have := HAs.out x (.inl hc); omega))
      obtain ⟨aa6, ac6, hav6, ab6, haat⟩ := Hall6.out.at
      simp only [Value.slice.injEq] at hav6
      obtain ⟨hq1, _, hq3⟩ := hav6
      subst hq1
      subst hq3
      have HSm := hide (same_any la aa lcap ac lb ab6 rs w6 hrl (fun r hr => (HRA.out.each r hr).2.2.2) hlat haat)
      have Hkb6 := hide (hI.out.ker.only ho6 (fun x hx hc => by
        have h1 := HAs.out x (.inl hc)
        rcases hI.out.ins x hx with h | h
        · have := (Hset.out x h).1; omega
        · omega) (fun x hx hc => by have := HAs.out x (.inl hc); have := hI.out.rge x hx; omega))
      have HB6 : Hid (Below w.heap.size w w6) := (HB5.out.trans (hI.out.only.below (by omega) (fun x hx hc => by have := (Hset.out x hc).1; omega))).trans (ho6.below (by omega) (fun x hx hc => by have := HA.out.kset x hc; omega))
      have Hk6 := hide hk6
      clear ho6 hm6 hk6 hok6 hout6 hlat haat HX
      go_wp2_with fail
      refine HSm.out.mono ?_
      rintro e w7 ⟨rfl, hb7⟩
      have hz7 := hb7.size
      have HB7 := hide (HB6.out.trans (hb7.mono (by omega)))
      have HSa := hide (save_any akb aqb amb ov6 (entsF L) (kindsF L) (rdrawsF D) s w7 (Hk6.out.below hb7) hI.out.fit.ok (by omega) (by omega) hdl.1 hI.out.fit.q.sorted)
      have Hkb7 := hide (Hkb6.out.below hb7)
      clear hb7 HSm
      go_wp2_with fail
      refine HSa.out.mono ?_
      rintro e w8 ⟨pv, rfl, hb8, hrow8⟩
      obtain ⟨pg, pcap, hpv⟩ := hrow8.form
      subst hpv
      have hz8 := hb8.size
      have HB8 := hide (HB7.out.trans (hb8.mono (by omega)))
      have HSb := hide (save_any kb qb mb ov (entsF L) (kindsF L) (rdrawsF D) s w8 (Hkb7.out.below hb8) hI.out.fit.ok (by omega) (by omega) hdl.1 hI.out.fit.q.sorted)
      have Hrow8 := hide hrow8
      clear hb8 hrow8 HSa
      go_wp2_with fail
      refine HSb.out.mono ?_
      rintro e w9 ⟨qv, rfl, hb9, hrow9⟩
      obtain ⟨qg, qcap, hqv⟩ := hrow9.form
      subst hqv
      have hz9 := hb9.size
      have HB9 := hide (HB8.out.trans (hb9.mono (by omega)))
      have hcv1 := conv_str (Hrow8.out.keep (Only.new (S := fun _ => False) hb9) (by simp)) (saveF_bytes hI.out.fit.ok (by omega) (by omega) hdl.1 hI.out.fit.q.sorted)
      have hcv2 := conv_str hrow9 (saveF_bytes hI.out.fit.ok (by omega) (by omega) hdl.1 hI.out.fit.q.sorted)
      clear hb9 hrow9 HSb Hrow8
      by_cases hN0 : N = 0
      · subst hN0
        go_wp2_with fail
        go_ret
        exact ⟨rfl, HB9.out⟩
      · have hN1 : ((N : Int) == 0) = false := by rw [beq_eq_false_iff_ne]; omega
        go_wp2_with fail
        go_ret
        exact ⟨rfl, HB9.out⟩
end Go.Proofs.Ytndlmgocldckfaa
