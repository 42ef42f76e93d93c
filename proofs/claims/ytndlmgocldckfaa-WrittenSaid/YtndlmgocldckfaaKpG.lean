import Derived.Test.YtndlmgocldckfaaKpF
namespace Go.Proofs.Ytndlmgocldckfaa
open Go.RowKit
set_option linter.unusedVariables false
set_option linter.unusedSimpArgs false

theorem MdR.raw_only {w wr wi : World} {rb mb : Nat} {sa : Option Addr} {sc : Nat} {L : List Int} {ents : Int} {kv : Value} {done : List (List Ins)} {J J' : Nat} (h : MdR w wr rb mb sa sc L ents kv done J)
    (ho : Only (· = rb) wr wi) (hr : RawP wi rb sa sc L J') : MdR w wi rb mb sa sc L ents kv done J' := by
  have hne : ¬ mb = rb := by have := h.rlt; omega
  have hk := h.klt
  have hz := ho.size
  obtain ⟨vals, h1, h2⟩ := h.row
  refine ⟨h.only.trans ho, hr, h.rlt, h.slt, h.wlt, ho.at h.c0 hne, ho.at h.c1 hne, h.room.only ho hne, vals, owns_only h1 ho (fun b hb hc => by have := (hk b hb).1; have := h.rlt; omega), fun j l hl => ?_⟩
  obtain ⟨v, hv, hc⟩ := h2 j l hl
  refine ⟨v, hv, (hc.only ho ?_).mono ?_⟩
  · rintro b ⟨b1, b2, b3⟩ hc; have := h.rlt; omega
  · rintro b ⟨b1, b2, b3⟩; exact ⟨b1, by omega, b3⟩

/-- One instruction more: the row of a kind, as it grows. -/
structure CdR (wr wi : World) (rb : Nat) (sa : Option Addr) (sc : Nat) (L : List Int) (lv : Value) (done : List Ins) (J : Nat) : Prop where
  only : Only (· = rb) wr wi
  raw : RawP wi rb sa sc L J
  row : wi.ownsRow wr.heap.size 82 4 lv done.length (flat done)

theorem flat_snoc (l : List Ins) (x : Ins) : flat (l ++ [x]) = flat l ++ cells4 x := by simp [flat]

theorem CdR.step {wr wi w4 w5 : World} {rb : Nat} {sa : Option Addr} {sc : Nat} {L : List Int} {lv v5 : Value} {dn : List Ins} {J Jn : Nat} {x : Ins} {o1 o2 : Obj} (h : CdR wr wi rb sa sc L lv dn J) (hrb : rb < wr.heap.size) (hfar : ∀ b off, sa = some ⟨b, off, none⟩ → L ≠ [] → b < wr.heap.size)
    (ho4 : Only (· = rb) wi w4) (h4 : RawP w4 rb sa sc L Jn) (hg : ((w4.alloc o1).alloc o2).grownBy w5 lv.ownBlock) (hown : w5.ownsRow wr.heap.size 82 4 v5 (dn.length + 1) (flat dn ++ cells4 x)) : CdR wr w5 rb sa sc L v5 (dn ++ [x]) Jn := by
  have hlt := h.row.lt
  have hz := h.only.size
  have hz4 := ho4.size
  have hb : Below w4.heap.size w4 ((w4.alloc o1).alloc o2) := ((Below.refl _ _).alloc (Nat.le_refl _) _).alloc (by simp) _
  have hO : Only (fun b => some b = lv.ownBlock) w4 w5 := (Only.new hb).trans (Only.ofGrown hg)
  refine ⟨?_, ?_, ?_⟩
  · refine ((h.only.trans ho4).mono (S' := fun b => b = rb ∨ some b = lv.ownBlock) (fun k _ hk => .inl hk)).trans (hO.mono (fun k _ hk => .inr hk)) |>.mono ?_
    rintro k hk (hc | hc)
    · exact hc
    · have := (hlt k hc.symm).1; omega
  · refine h4.only hO ?_ ?_
    · intro hc; have := (hlt rb hc.symm).1; omega
    · intro b off hs hl hc; have := (hlt b hc.symm).1; have := hfar b off hs hl; omega
  · rw [flat_snoc, List.length_append]; exact hown

theorem row_cells4 (w : World) (x : Ins) (T : TypeId) : RowAt (w.alloc (.cells #[.int .i64 x.op, .int .i64 x.a, .int .i64 x.b, .int .i64 x.c] T)) w.heap.size 0 (cells4 x) := by
  intro j v hv
  rw [World.cell?_alloc_at _ _ _ _ rfl, Nat.zero_add]
  match j, hv with
  | 0, hv => simpa [cells4] using hv
  | 1, hv => simpa [cells4] using hv
  | 2, hv => simpa [cells4] using hv
  | 3, hv => simpa [cells4] using hv
  | j + 4, hv => simp [cells4] at hv

set_option maxRecDepth 100000 in
set_option maxHeartbeats 4000000 in
theorem model_any (rb : Nat) (sa : Option Addr) (sc : Nat) (L : List Int) (w : World) (h : RawP w rb sa sc L 0) :
    Calls Try.prog 13 #[.pointer (some ⟨rb, 0, none⟩)] w fun e w' => ∃ v, e = .returned (.agg #[.int .i64 (entsF L), v]) ∧ Only (· = rb) w w' ∧ KindsIn (fun b => w.heap.size ≤ b ∧ b < w'.heap.size) w' v (kindsF L) := by
  have he := entsF_le L
  have hk := nkF_le L
  have hrb := lt_of_cell h.c0
  have Hfar : Hid (∀ b off, sa = some ⟨b, off, none⟩ → L ≠ [] → b < w.heap.size) := by
    intro b off hs hl
    obtain ⟨b', off', h1, _, h3⟩ := h.row 0 (List.length_pos_iff.2 hl)
    rw [hs] at h1
    simp only [Option.some.injEq, Addr.mk.injEq] at h1
    obtain ⟨rfl, _⟩ := h1
    exact lt_of_cell h3
  have hw1 : IntKind.i64.wrap (1 + (nextF L 0 3).1) = entsF L := by rw [IntKind.wrap_i64]; unfold entsF at he ⊢; omega
  have hw2 : IntKind.i64.wrap (1 + (nextF L (nextF L 0 3).2 4).1) = nkF L := by rw [IntKind.wrap_i64]; unfold nkF at hk ⊢; omega
  have HK : Hid (kindsF L = (kindsRF L (nkF L) (entsF L) (nkF L).toNat (nextF L (nextF L 0 3).2 4).2).1) := by show _ = _; rfl
  have hlenK := kindsF_len L
  go_enter Try.func13, Try.ntmps13
  go_wp2_with fail
  obtain ⟨W0, hW0⟩ : ∃ W0, W0 = (w.alloc (.cells #[.int .i64 0, .slice none 0 0] 40)) := ⟨_, rfl⟩
  have hb0 : Below w.heap.size w W0 := by rw [hW0]; exact (Below.refl _ _).alloc (Nat.le_refl _) _
  have hz0 : W0.heap.size = w.heap.size + 1 := by rw [hW0]; simp
  have hroom0 : Room W0 w.heap.size 2 := by
    rw [hW0]
    intro j hj
    have : j = 0 ∨ j = 1 := by omega
    rcases this with rfl | rfl <;> simp [go_sem]
  have h0 : RawP W0 rb sa sc L 0 := h.only (Only.new (S := fun _ => False) hb0) (by simp) (by simp)
  rw [← hW0]
  refine (next_any rb sa sc L 0 3 _ h0 (by omega)).mono ?_
  rintro e w1 ⟨rfl, ho1, h1⟩
  have hz1 := ho1.size
  go_wp2_with fail
  obtain ⟨W1, hW1⟩ : ∃ W1, W1 = (w1.alloc (.cells #[.int .i64 (entsF L), .slice none 0 0] 40)) := ⟨_, rfl⟩
  rw [← hW1]
  have hb1 : Below w1.heap.size w1 W1 := by rw [hW1]; exact (Below.refl _ _).alloc (Nat.le_refl _) _
  have hroom1 : Room W1 w1.heap.size 2 := by
    rw [hW1]
    intro j hj
    have : j = 0 ∨ j = 1 := by omega
    rcases this with rfl | rfl <;> simp [go_sem]
  have hO1 : Only (· = rb) w W1 := ((Only.new hb0).trans ho1).trans (Only.new hb1)
  have h11 : RawP W1 rb sa sc L (nextF L 0 3).2 := h1.only (Only.new (S := fun _ => False) hb1) (by simp) (by simp)
  have hM1 : MdR w W1 rb w1.heap.size sa sc L (entsF L) (.slice none 0 0) [] (nextF L 0 3).2 := by
    refine ⟨hO1, h11, by omega, fun b off hs hl => by have := Hfar.out b off hs hl; omega, by omega, ?_, ?_, hroom1, [], World.ownsRow_nil _ _ _ _, by simp⟩
    · rw [hW1]; simp [go_sem]
    · rw [hW1]; simp [go_sem]
  have hroomW : Room W1 w.heap.size 2 := (hroom0.only ho1 (by omega)).below hb1 (by omega)
  clear hW0 hW1 hb0 h0 ho1 h1 hroom0 hb1 hroom1 hO1 h
  refine (next_any rb sa sc L (nextF L 0 3).2 4 _ h11 (by omega)).mono ?_
  rintro e w2 ⟨rfl, ho2, h2⟩
  have hM2 := hide (hM1.raw_only ho2 h2)
  have hroom2 := hide (hroomW.only ho2 (by omega))
  have hm2 : w1.heap.size < w2.heap.size := lt_of_cell hM2.out.c0
  clear hM1 hroomW h2 h11 ho2
  obtain ⟨K, hKn⟩ := Int.eq_ofNat_of_zero_le (show 0 ≤ nkF L by omega)
  go_wp2_with fail
  rw [hKn] at hw2 HK hlenK hk
  simp only [Int.toNat_natCast] at HK
  generalize nextF L (nextF L 0 3).2 4 = p2 at hM2 HK hw2 ⊢
  generalize nextF L 0 3 = p1 at hw1 hw2 ⊢
  generalize hE : entsF L = E at hM2 HK he hw1 ⊢
  generalize hKK : kindsF L = KK at HK hlenK ⊢
  generalize hmb : w1.heap.size = mb at hM2 hz1 hm2 ⊢
  have HE := hide hE
  have HKK := hide hKK
  have hmw : w.heap.size < mb := by omega
  clear hKn hKK hE hmb
  go_loopg [5] 6 (fun g s5 wr => ∃ (i n : Nat) (kv : Value) (done : List (List Ins)) (J : Nat), s5 = .int .i64 i ∧ 5 - i + 1 ≤ g ∧ i + n = K ∧ Hid (MdR w wr rb mb sa sc L E kv done J ∧ Room wr w.heap.size 2 ∧ done.length = i ∧ done ++ (kindsRF L K E n J).1 = KK))
  case atStart => exact ⟨0, K, _, [], _, rfl, by omega, by omega, hM2.out, hroom2.out, rfl, by simpa using HK.out.symm⟩
  case round =>
    rename World => wo
    obtain ⟨i, n, kv, done, J, rfl, hg, hn, hH⟩ := hrel
    have hzo := hH.out.1.only.size
    by_cases hik : i < K
    · obtain ⟨n', rfl⟩ : ∃ n', n = n' + 1 := ⟨n - 1, by omega⟩
      have d1 : decide ((i : Int) < (K : Int)) = true := by simp; omega
      have hwi : IntKind.i64.wrap ((i : Int) + 1) = (i : Int) + 1 := by rw [IntKind.wrap_i64]; omega
      go_wp2_with fail
      refine (next_any rb sa sc L J 7 _ hH.out.1.raw (by omega)).mono ?_
      rintro e w3 ⟨rfl, ho3, h3⟩
      have hn7 := nextF_lt L J (n := 7) (by omega)
      have HC : Hid (codeRF L K E J = codesF L K E (nextF L J 7).1.toNat (nextF L J 7).2) := by show _ = _; rfl
      generalize nextF L J 7 = p7 at h3 hn7 HC ⊢
      obtain ⟨m, hm⟩ := Int.eq_ofNat_of_zero_le hn7.1
      rw [hm] at hn7 HC ⊢
      simp only [Int.toNat_natCast] at HC
      have HO3 := hide ho3
      have H3 := hide h3
      have hz3 := ho3.size
      clear ho3 h3
      go_wp2_with fail
      go_loopg [6, 7] 8 (fun g s6 s7 wi => ∃ (m2 : Nat) (dn : List Ins) (J2 : Nat), s7 = .int .i64 m2 ∧ m2 + 1 ≤ g ∧ m2 ≤ 6 ∧ Hid (CdR w3 wi rb sa sc L s6 dn J2 ∧ dn ++ (codesF L K E m2 J2).1 = (codeRF L K E J).1 ∧ (codesF L K E m2 J2).2 = (codeRF L K E J).2))
      case atStart => exact ⟨m, [], p7.2, rfl, by omega, by omega, ⟨Only.refl _ _, H3.out, World.ownsRow_nil _ _ _ _⟩, by simp [HC.out], by rw [HC.out]⟩
      case round =>
        obtain ⟨m2, dn, J2, rfl, hg2, hm2', hI⟩ := hrel
        have hc0 : wr.cell? ⟨mb, 0, none⟩ = some (.int .i64 E) := hI.out.1.only.at (HO3.out.at hH.out.1.c0 (by omega)) (by omega)
        have hzi := hI.out.1.only.size
        by_cases hm0 : 0 < m2
        · obtain ⟨m3, rfl⟩ : ∃ m3, m2 = m3 + 1 := ⟨m2 - 1, by omega⟩
          have d2 : decide (0 < ((m3 + 1 : Nat) : Int)) = true := by rw [decide_eq_true_eq]; omega
          have hwm : IntKind.i64.wrap (((m3 + 1 : Nat) : Int) - 1) = (m3 : Int) := by rw [IntKind.wrap_i64]; omega
          go_wp2_with fail
          refine (instr_any rb sa sc L J2 K E _ hI.out.1.raw (by omega) (by omega)).mono ?_
          rintro e w4 ⟨rfl, ho4, h4⟩
          have HS : Hid (codesF L K E (m3 + 1) J2 = ((instrF L K E J2).1 :: (codesF L K E m3 (instrF L K E J2).2).1, (codesF L K E m3 (instrF L K E J2).2).2)) := by show _ = _; rfl
          generalize instrF L K E J2 = q at h4 HS ⊢
          obtain ⟨⟨q1, q2, q3, q4⟩, Jn⟩ := q
          simp only at h4 HS ⊢
          have HO4 := hide ho4
          have H4 := hide h4
          have hz4 := ho4.size
          clear ho4 h4
          have HW4 : Hid (w4.ownsRow w3.heap.size 82 4 _ dn.length (flat dn)) := owns_only hI.out.1.row HO4.out (fun b hb hc => by have := (hI.out.1.row.lt b hb.symm).1; omega)
          have hdn : dn.length ≤ 6 := by
            have h1 := congrArg List.length hI.out.2.1
            rw [HC.out] at h1
            simp only [List.length_append, codesF_len] at h1
            omega
          go_wp2_with (at_builtin; refine wpList_append_src rfl (.tmp 32) (.tmp 34) 80 rfl w3.heap.size 82 (.agg #[.int .i64 0, .int .i64 0, .int .i64 0, .int .i64 0]) 4 32 Try.underlying80 Try.info59 rfl (by omega) _ dn.length (flat dn) rfl ((HW4.out.alloc _).alloc _) _ 1 (cells4 ⟨q1, q2, q3, q4⟩) rfl (.inr (.inl ⟨_, 0, _, rfl, ?_⟩)) rfl (by simp [cells4, Value.oneCell']) (by omega) (by omega) (by simp; omega) ?_)
          · have := row_cells4 (w4.alloc (.cells #[.int .i64 q1, .int .i64 q2, .int .i64 q3, .int .i64 q4] 82)) ⟨q1, q2, q3, q4⟩ 82
            simpa using this
          intro v5 w5 hown5 hgr5 hwh5
          go_wp2_with fail
          go_roundg (m3 + 1)
          case measure => omega
          case rel =>
            have hzo2 := hzo
            refine ⟨m3, dn ++ [⟨q1, q2, q3, q4⟩], Jn, rfl, by omega, by omega, hI.out.1.step (by omega) (fun b off hs hl => by have := Hfar.out b off hs hl; omega) HO4.out H4.out hgr5.out hown5.out, ?_, ?_⟩
            · have h1 := hI.out.2.1
              rw [HS.out] at h1
              simpa using h1
            · have h1 := hI.out.2.2
              rw [HS.out] at h1
              exact h1
        · obtain rfl : m2 = 0 := by omega
          have d2 : decide (0 < ((0 : Nat) : Int)) = false := by simp
          have hcode : dn = (codeRF L K E J).1 := by simpa [codesF] using hI.out.2.1
          have hJ : J2 = (codeRF L K E J).2 := by simpa [codesF] using hI.out.2.2
          have hc1 : wr.cell? ⟨mb, 1, none⟩ = some kv := hI.out.1.only.at (HO3.out.at hH.out.1.c1 (by omega)) (by omega)
          have hf1 := (((hH.out.1.room.only HO3.out (by omega)).only hI.out.1.only (by omega)) 1 (by omega)).2
          obtain ⟨lsa, lsc, hlv⟩ := owns_formA hI.out.1.row
          obtain ⟨vals, hrow, hvals⟩ := hH.out.1.row
          have hrl : vals.length = done.length := by have := hrow.1; omega
          have hdl : done.length ≤ 4 := by have := hH.out.2.2.1; omega
          have HOr : Hid (Only (· = rb) wo wr) := HO3.out.trans hI.out.1.only
          have HW : Hid (wr.ownsRow (mb + 1) 80 1 kv done.length vals) := owns_only hrow HOr.out (fun b hb hc => by have := (hrow.lt b hb.symm).1; omega)
          have Hvals := hide hvals
          subst hlv
          have hmlt := lt_of_cell hc1
          have Hcode := hide hcode
          have HJ := hide hJ
          have hkk := hH.out.1.klt
          have hmk : ¬ some mb = kv.ownBlock := fun hc => by have := (hkk mb hc).1; omega
          have hdn : dn.length ≤ 6 := by
            rw [hcode, HC.out, codesF_len]
            omega
          clear hvals hrow hcode hJ
          go_wp2_with (at_builtin; refine wpList_append_src rfl (.tmp 37) (.tmp 39) 38 rfl (mb + 1) 80 (.slice none 0 0) 1 24 Try.underlying38 Try.info60 rfl (by omega) _ done.length vals rfl (HW.out.alloc _) _ 1 [.slice lsa dn.length lsc] rfl (.inr (.inl ⟨_, 0, _, rfl, ?_⟩)) rfl (by simp [Value.oneCell']) (by omega) (by omega) (by simp; omega) ?_)
          · intro j u hu
            have hj : j < 1 := by have := (List.getElem?_eq_some_iff.1 hu).1; simpa using this
            obtain rfl : j = 0 := by omega
            simp at hu
            subst hu
            rw [World.cell?_alloc_at _ _ _ _ rfl]; rfl
          intro v5 w5 hown5 hgr5 hwh5
          have hbA : Below wr.heap.size wr (wr.alloc (.cells #[.slice lsa dn.length lsc] 80)) := (Below.refl _ _).alloc (Nat.le_refl _) _
          have HOA : Hid (Only (fun b => some b = kv.ownBlock) wr w5) := (Only.new hbA).trans (Only.ofGrown hgr5.out)
          have hc5 := HOA.out.at hc1 hmk
          have hf5 : w5.frozen? ⟨mb, 1, none⟩ = false := (((((hH.out.1.room.only HO3.out (by omega)).only hI.out.1.only (by omega)).only HOA.out hmk) 1 (by omega))).2
          have HbA := hide hbA
          obtain ⟨sa5, sc5, rfl⟩ := owns_formA hown5.out
          clear hbA
          go_wp2_with fail
          go_roundg (5 - (i + 1) + 1)
          case measure => omega
          case rel =>
            refine ⟨i + 1, n', .slice sa5 (done.length + 1) sc5, done ++ [dn], J2, by go_num, by omega, by omega, ?_, ?_, ?_, ?_⟩
            · have hzA : (wr.alloc (.cells #[.slice lsa dn.length lsc] 80)).heap.size = wr.heap.size + 1 := by simp
              exact hH.out.1.step (HOr.out.trans (Only.new HbA.out)) (hI.out.1.raw.only (Only.new (S := fun _ => False) HbA.out) (by simp) (by simp)) (((owns_code hI.out.1.row (by omega)).only (Only.new (S := fun _ => False) HbA.out) (by simp)).mono (fun b hb => by rw [hzA]; omega)) Hvals.out hrl hgr5.out hown5.out (by rw [hzA]; exact hwh5.out)
            · refine ((((hH.out.2.1.only HO3.out (by omega)).only hI.out.1.only (by omega)).only HOA.out (fun hc => by have := (hkk _ hc).1; omega))).setCell _ _
            · have := hH.out.2.2.1; simp; omega
            · have h1 := hH.out.2.2.2
              simp only [kindsRF] at h1
              rw [← h1, Hcode.out, HJ.out]
              simp
    · obtain rfl : n = 0 := by omega
      have d1 : decide ((i : Int) < (K : Int)) = false := by simp; omega
      have hc0 := hH.out.1.c0
      have hc1 := hH.out.1.c1
      obtain ⟨s0, y0⟩ := hH.out.2.1 0 (by omega)
      obtain ⟨s1, y1⟩ := hH.out.2.1 1 (by omega)
      obtain ⟨z0, x0⟩ := Option.isSome_iff_exists.1 s0
      obtain ⟨z1, x1⟩ := Option.isSome_iff_exists.1 s1
      obtain ⟨vals, hrow, hvals⟩ := hH.out.1.row
      obtain ⟨ksa, ksc, hkv⟩ := owns_formA hrow
      subst hkv
      have Hvals := hide hvals
      have Hrow := hide hrow
      clear s0 s1 hvals hrow
      go_wp2_with fail
      obtain ⟨WZ, hWZ⟩ : ∃ WZ, WZ = (wo.setCell ⟨w.heap.size, 0, none⟩ (.int .i64 E)).setCell ⟨w.heap.size, 1, none⟩ (.slice ksa done.length ksc) := ⟨_, rfl⟩
      have hOz : Only (· = w.heap.size) wo WZ := by rw [hWZ]; exact ((Only.refl (· = w.heap.size) wo).setCell (p := ⟨w.heap.size, 0, none⟩) rfl _).setCell (p := ⟨w.heap.size, 1, none⟩) rfl _
      have t1 : WZ.cell? ⟨w.heap.size, 1, none⟩ = some (.slice ksa done.length ksc) := by rw [hWZ]; exact World.cell?_setCell_same' _ _ _ ((hH.out.2.1.setCell _ _) 1 (by omega)).1
      have t0 : WZ.cell? ⟨w.heap.size, 0, none⟩ = some (.int .i64 E) := by rw [hWZ, World.cell?_setCell_other _ _ _ _ (by simp)]; exact World.cell?_setCell_same' _ _ _ (hH.out.2.1 0 (by omega)).1
      rw [← hWZ]
      clear hWZ
      refine bodyPost_ret (v := .agg #[.int .i64 E, .slice ksa done.length ksc]) ?_ rfl ?_
      · rw [results_one rfl]; simp [go_sem, t0, t1]
      have hks : done = kindsF L := by
        have h1 := hH.out.2.2.2
        simp only [kindsRF, List.append_nil] at h1
        rw [h1, HKK.out]
      have hzz := hOz.size
      refine ⟨_, by rw [HE.out], ?_, ?_⟩
      · refine (hH.out.1.only.mono (S' := fun b => b = rb ∨ b = w.heap.size) (fun k _ hk => .inl hk)).trans (hOz.mono (fun k _ hk => .inr hk)) |>.mono ?_
        intro k hk hc
        exact hc.resolve_right (by omega)
      · rw [← hks]
        have hd8 : done.length ≤ 8 := by have := hH.out.2.2.1; omega
        refine ⟨by omega, ?_⟩
        rcases owns_row Hrow.out with ⟨e1, e2, e3⟩ | ⟨g, cap, e1, e2, e3, e4⟩
        · exact .inl ⟨e1, List.eq_nil_of_length_eq_zero e2⟩
        · refine .inr ⟨g, 0, cap, e1, by omega, fun j l hl => ?_⟩
          obtain ⟨v, hv1, hv2⟩ := Hvals.out j l hl
          refine ⟨v, ?_, (hv2.only hOz ?_).mono ?_⟩
          · have := e4 j v hv1
            exact hOz.at this (by omega)
          · rintro b ⟨b1, b2, b3⟩ hc; omega
          · rintro b ⟨b1, b2, b3⟩; omega
end Go.Proofs.Ytndlmgocldckfaa
