import Derived.Test.YtndlmgocldckfaaGreatG13
import Derived.Laws.IdiomStrings
import Derived.Test.YtndlmgocldckfaaGreatG11
import Derived.Test.YtndlmgocldckfaaGreatG04
import Derived.Deep.LoopGhost
import Derived.Test.YtndlmgocldckfaaGreatG08
import Derived.BigQuiet
namespace Go.Proofs.YtndlmgocldckfaaGreat
open Go.RowKit
set_option linter.unusedVariables false
set_option linter.unusedSimpArgs false
set_option maxRecDepth 100000
set_option maxHeartbeats 4000000
def strW (l : List Int) : ByteArray := ⟨(l.map fun b => UInt8.ofNat b.toNat).toArray⟩
theorem strW_inj {a b : List Int} (ha : ∀ c ∈ a, 0 ≤ c ∧ c < 256) (hb : ∀ c ∈ b, 0 ≤ c ∧ c < 256) (h : strW a = strW b) : a = b := by
 unfold strW at h
 have h1 : (a.map fun b => UInt8.ofNat b.toNat) = (b.map fun b => UInt8.ofNat b.toNat) := by
  have := congrArg (fun x : ByteArray => x.data.toList) h
  simpa using this
 clear h
 induction a generalizing b with
 | nil => cases b with
  | nil => rfl
  | cons y b => simp at h1
 | cons x a ih => cases b with
  | nil => simp at h1
  | cons y b =>
   simp only [List.map_cons, List.cons.injEq] at h1
   have hx := ha x (List.mem_cons_self ..)
   have hy := hb y (List.mem_cons_self ..)
   have e : x = y := by
    have := congrArg UInt8.toNat h1.1
    have e1 : (UInt8.ofNat x.toNat).toNat = x.toNat % 256 := UInt8.toNat_ofNat'
    have e2 : (UInt8.ofNat y.toNat).toNat = y.toNat % 256 := UInt8.toNat_ofNat'
    rw [e1, e2] at this
    omega
   rw [e, ih (fun c hc => ha c (List.mem_cons_of_mem _ hc)) (fun c hc => hb c (List.mem_cons_of_mem _ hc)) h1.2]
theorem strNe {a b : List Int} (ha : ∀ c ∈ a, 0 ≤ c ∧ c < 256) (hb : ∀ c ∈ b, 0 ≤ c ∧ c < 256) (h : ¬ a = b) : ((strW a).toList == (strW b).toList) = false := by
 rw [beq_eq_false_iff_ne]
 intro hc
 rw [ByteArray.toList_eq, ByteArray.toList_eq] at hc
 refine h (strW_inj ha hb ?_)
 exact ByteArray.ext (Array.ext' hc)
theorem conv_win {w : World} {g off cap : Nat} {l : List Int} (h : RowAt w g off (byteV l)) (hb : ∀ b ∈ l, 0 ≤ b ∧ b < 256) : (convert 56 9 (.slice (some ⟨g, off, none⟩) l.length cap)).run Tryz.prog w = .ok (.string (strW l)) w := by
 have := run_convert_bytes_back (P := Tryz.prog) w 56 9 5 ⟨g, off, none⟩ cap (l.map fun b => UInt8.ofNat b.toNat) Tryz.underlying56 Tryz.underlying5 Tryz.underlying9 (by
  intro j hj
  have hj' : j < l.length := by simpa using hj
  have hc := h j (.int .u8 l[j]) (by simp [byteV, hj'])
  have hx := hb l[j] (List.getElem_mem hj')
  rw [Addr.add_lit, hc]
  simp only [List.getElem_map]
  congr 2
  have h8 : (UInt8.ofNat l[j].toNat).toNat = l[j].toNat % 256 := UInt8.toNat_ofNat'
  rw [h8]
  omega)
 simpa [strW] using this
theorem bEqual_any (g1 o1 c1 g2 o2 c2 : Nat) (l l2 : List Int) (w : World) (h1 : RowAt w g1 o1 (byteV l)) (h2 : RowAt w g2 o2 (byteV l2)) (hb : ∀ b ∈ l, 0 ≤ b ∧ b < 256) (hb2 : ∀ b ∈ l2, 0 ≤ b ∧ b < 256) :
  Calls Tryz.prog 103 #[.slice (some ⟨g1, o1, none⟩) l.length c1, .slice (some ⟨g2, o2, none⟩) l2.length c2] w fun e w' => e = .returned (.bool (decide (l = l2))) ∧ Below w.heap.size w w' := by
 have k1 := conv_win (cap := c1) h1 hb
 have k2 := conv_win (cap := c2) h2 hb2
 have hd : decide (l = l2) = ((strW l).toList == (strW l2).toList) := by
  by_cases h : l = l2
  ·subst h; simp
  ·rw [strNe hb hb2 h]; simp [h]
 rw [hd]
 clear h1 h2 hd
 go_enter Tryz.func103, Tryz.ntmps103
 go_wp2
 go_ret
 exact ⟨rfl, Below.refl _ _⟩
def openE (hd l : List Int) : Int := if l.length < 8 ∨ l.take 4 ≠ hd then 4 else if l.drop (l.length - 4) ≠ sumB (l.take (l.length - 4)) then 5 else 0
def openL (l : List Int) : List Int := (l.take (l.length - 4)).drop 4
theorem openL_ok (hd body : List Int) (hhl : hd.length = 4) : openL ((hd ++ body) ++ sumB (hd ++ body)) = body := by
 unfold openL
 rw [List.length_append, sumB_len, Nat.add_sub_cancel, List.take_left, List.drop_left' hhl]
theorem openE_ok (hd body : List Int) (hhl : hd.length = 4) : openE hd ((hd ++ body) ++ sumB (hd ++ body)) = 0 := by
 unfold openE
 rw [if_neg, if_neg]
 ·rw [List.length_append, sumB_len, Nat.add_sub_cancel, List.take_left, List.drop_left]
  simp
 ·rintro (h | h)
  ·simp [sumB_len, hhl] at h; omega
  ·apply h
   rw [List.append_assoc, List.take_left' hhl]
theorem open_short (sa : Option Addr) (n cap : Nat) (s : ByteArray) (w : World) (hs : s.size = 4) (hn : n < 8) :
  Calls Tryz.prog 64 #[.string s, .slice sa n cap] w fun e w' => e = .returned (.tuple #[.pointer none, .int .i64 4]) ∧ Below w.heap.size w w' := by
 have hw1 : IntKind.i64.wrap ((n : Int) - 4) = (n : Int) - 4 := by rw [IntKind.wrap_i64]; omega
 have dd1 : decide ((n : Int) - 4 < 4) = true := by simp; omega
 go_enter Tryz.func64, Tryz.ntmps64
 go_wp2_with fail
 go_ret2
 exact ⟨rfl, Below.refl _ _⟩
theorem open_any (g off cap : Nat) (hd l : List Int) (w : World) (hr : RowAt w g off (byteV l)) (hcap : l.length ≤ cap) (hb : ∀ b ∈ l, 0 ≤ b ∧ b < 256) (hl : l.length ≤ 1000000000000000) (s : ByteArray) (hs : s = strW hd) (hhl : hd.length = 4) (hhb : ∀ b ∈ hd, 0 ≤ b ∧ b < 256) (hgl : g < w.heap.size) :
  Calls Tryz.prog 64 #[.string s, .slice (some ⟨g, off, none⟩) l.length cap] w fun e w' => ∃ p, e = .returned (.tuple #[.pointer p, .int .i64 (openE hd l)]) ∧ Below w.heap.size w w' ∧ (openE hd l ≠ 0 → p = none) ∧ (openE hd l = 0 → ∃ rb, p = some ⟨rb, 0, none⟩ ∧ w.heap.size ≤ rb ∧ RdP w' rb g (openL l) false) := by
 have hss : s.size = 4 := by rw [hs]; simp [strW, ByteArray.size, hhl]
 by_cases h8 : l.length < 8
 ·have hE : openE hd l = 4 := by unfold openE; rw [if_pos (.inl h8)]
  rw [hE]
  refine (open_short _ _ _ s w hss h8).mono ?_
  rintro e w' ⟨rfl, hb⟩
  exact ⟨none, rfl, hb, fun _ => rfl, fun h => by cases h⟩
 obtain ⟨n, hn⟩ : ∃ n, l.length = n + 8 := ⟨l.length - 8, by omega⟩
 have hrow4 : RowAt w g off (byteV (l.take 4)) := by
  intro j v hv
  refine hr j v ?_
  have hj := (List.getElem?_eq_some_iff.1 hv).1
  simp only [byteV, List.length_map, List.length_take] at hj
  rw [← hv]
  simp only [byteV, List.getElem?_map, List.getElem?_take]
  rw [if_pos (by omega)]
 have hl4 : (l.take 4).length = 4 := by simp; omega
 have k1 := conv_win (cap := cap) hrow4 (fun b hb' => hb b (List.mem_of_mem_take hb'))
 rw [hl4] at k1
 have hw1 : IntKind.i64.wrap ((n : Int) + 8 - 4) = (n : Int) + 4 := by rw [IntKind.wrap_i64]; omega
 have dd1 : decide ((n : Int) + 4 < 4) = false := by simp; omega
 have hc1 : (n : Int) + 8 ≤ (cap : Int) := by omega
 have hc2 : (n : Int) + 4 ≤ (cap : Int) := by omega
 have hc4 : (4 : Int) ≤ (cap : Int) := by omega
 rw [hn]
 by_cases h4 : l.take 4 = hd
 rotate_left
 ·have hE : openE hd l = 4 := by unfold openE; rw [if_pos (.inr h4)]
  have hbe : ((strW (l.take 4)).toList == s.toList) = false := by rw [hs]; exact strNe (fun b hb' => hb b (List.mem_of_mem_take hb')) hhb h4
  rw [hE]
  generalize strW (l.take 4) = s4 at k1 hbe
  clear hE h4 hrow4 hr hs
  go_enter Tryz.func64, Tryz.ntmps64
  go_wp2_with fail
  go_ret2
  exact ⟨none, rfl, Below.refl _ _, fun _ => rfl, fun h => by cases h⟩
 have hbe : strW (l.take 4) = s := by rw [hs, h4]
 rw [hbe] at k1
 obtain ⟨hd', hhd⟩ : ∃ hd', hd' = l.take (l.length - 4) := ⟨_, rfl⟩
 have hdl : hd'.length = n + 4 := by rw [hhd]; simp; omega
 have hdb : ∀ b ∈ hd', 0 ≤ b ∧ b < 256 := fun b hb' => hb b (by rw [hhd] at hb'; exact List.mem_of_mem_take hb')
 have hrow1 : RowAt w g off (byteV hd') := by
  intro j v hv
  refine hr j v ?_
  have hj := (List.getElem?_eq_some_iff.1 hv).1
  simp only [byteV, List.length_map] at hj
  rw [← hv, hhd]
  simp only [byteV, List.getElem?_map, List.getElem?_take]
  rw [if_pos (by omega)]
 obtain ⟨tl, htl⟩ : ∃ tl, tl = l.drop (l.length - 4) := ⟨_, rfl⟩
 have htll : tl.length = 4 := by rw [htl]; simp; omega
 have htb : ∀ b ∈ tl, 0 ≤ b ∧ b < 256 := fun b hb' => hb b (by rw [htl] at hb'; exact List.mem_of_mem_drop hb')
 have hrowS : RowAt w g (off + (n + 4)) (byteV tl) := by
  intro j v hv
  have := hr (n + 4 + j) v (by rw [← hv, htl]; simp only [byteV, List.getElem?_map, List.getElem?_drop]; rw [show l.length - 4 + j = n + 4 + j by omega])
  rw [← Nat.add_assoc] at this
  exact this
 have hrowB : RowAt w g (off + 4) (byteV (openL l)) := by
  intro j v hv
  have := hrow1 (4 + j) v (by rw [← hv, hhd]; simp only [openL, byteV, List.getElem?_map, List.getElem?_drop])
  rw [← Nat.add_assoc] at this
  exact this
 have hol : (openL l).length = n := by simp [openL]; omega
 have HOb : Hid (∀ b ∈ openL l, 0 ≤ b ∧ b < 256) := fun b hb' => hb b (List.mem_of_mem_take (List.mem_of_mem_drop hb'))
 have HE : Hid (openE hd l = if tl = sumB hd' then 0 else 5) := by
  show _ = _
  unfold openE
  rw [if_neg (fun h => h.elim h8 (fun h => h h4)), ← htl, ← hhd]
  by_cases h : tl = sumB hd'
  ·rw [if_neg (by simpa using h), if_pos h]
  ·rw [if_pos h, if_neg h]
 have HS := hide (sum_any w g off cap hd' hrow1 (by omega) hdb)
 have HrowS := hide hrowS
 have HrowB := hide hrowB
 have Htb := hide htb
 have Hhd := hide hhd
 have Htl := hide htl
 clear hr hrow4 hrow1 hrowS hrowB hb hhd hdb hs htb htl hbe h4
 go_enter Tryz.func64, Tryz.ntmps64
 go_wp2_with fail
 have HS2 := HS.out
 rw [hdl] at HS2
 refine HS2.mono ?_
 rintro e w1 ⟨rfl, hb1⟩
 have hz1 := hb1.size
 have HsB : Hid (sumB hd' = [sumF hd' / 16777216 % 256, sumF hd' / 65536 % 256, sumF hd' / 256 % 256, sumF hd' % 256]) := by show _ = _; rfl
 have HsBb := hide (sumB_bytes hd')
 generalize sumF hd' / 16777216 % 256 = z0 at HsB ⊢
 generalize sumF hd' / 65536 % 256 = z1 at HsB ⊢
 generalize sumF hd' / 256 % 256 = z2 at HsB ⊢
 generalize sumF hd' % 256 = z3 at HsB ⊢
 have HB1 := hide hb1
 clear hb1 HS HS2 k1
 go_wp2_with fail
 obtain ⟨W2, hW2⟩ : ∃ W2, W2 = w1.alloc (.cells #[.int .u8 z0, .int .u8 z1, .int .u8 z2, .int .u8 z3] 157) := ⟨_, rfl⟩
 have hb2 : Below w1.heap.size w1 W2 := by rw [hW2]; exact (Below.refl _ _).alloc (Nat.le_refl _) _
 have hz2 : W2.heap.size = w1.heap.size + 1 := by rw [hW2]; simp
 have HBW : Hid (Below w.heap.size w W2) := HB1.out.trans (hb2.mono hz1)
 have HEq : Hid (∀ c1, Calls Tryz.prog 103 #[.slice (some ⟨g, off + (n + 4), none⟩) 4 c1, .slice (some ⟨w1.heap.size, 0, none⟩) 4 4] W2.drew fun e w' => e = .returned (.bool (decide (tl = sumB hd'))) ∧ Below W2.heap.size W2 w') := by
  intro c1
  have h1 : RowAt W2.drew g (off + (n + 4)) (byteV tl) := by
   intro j v hv
   have := HrowS.out j v hv
   exact below_at HBW.out this (lt_of_cell this)
  have h2 : RowAt W2.drew w1.heap.size 0 (byteV (sumB hd')) := by
   rw [HsB.out]
   intro j v hv
   rw [hW2, Nat.zero_add]
   match j, hv with
   | 0, hv => simp [byteV] at hv; subst hv; simp [go_sem]
   | 1, hv => simp [byteV] at hv; subst hv; simp [go_sem]
   | 2, hv => simp [byteV] at hv; subst hv; simp [go_sem]
   | 3, hv => simp [byteV] at hv; subst hv; simp [go_sem]
   | j + 4, hv => simp [byteV] at hv
  have := bEqual_any g (off + (n + 4)) c1 w1.heap.size 0 4 tl (sumB hd') W2.drew h1 h2 Htb.out HsBb.out
  rw [htll] at this
  refine this.mono ?_
  rintro e w' ⟨rfl, hb⟩
  exact ⟨rfl, (Below.refl _ _).drew.trans hb⟩
 rw [← hW2]
 have h84 : n + 8 - (n + 4) = 4 := by omega
 have hc3 : (n : Int) + 4 ≤ (n : Int) + 8 := by omega
 have hcne : ¬ cap = n + 4 := by omega
 have hc00 : (0 : Int) ≤ (n : Int) + 4 := by omega
 have hcN : n + 4 ≤ n + 8 := by omega
 have hcN2 : n + 8 ≤ cap := by omega
 have hcN3 : n + 4 ≤ cap := by omega
 have htn : ((n : Int) + 4).toNat = n + 4 := by omega
 generalize hdec : decide (tl = sumB hd') = dec at HEq
 have Hdec := hide hdec
 clear hW2 hb2 hdec
 go_region_held3 (fun _ => True)
  (exact trivial)
  (first | (go_at_call 103; refine (HEq.out _).mono ?_; rintro e' w3 ⟨rfl, hb3⟩))
 have HB3 : Hid (Below w.heap.size w w3) := HBW.out.trans (hb3.mono (by omega))
 have hz3 := hb3.size
 clear hb3 HEq
 rcases dec with _ | _
 ·have hE : openE hd l = 5 := by rw [HE.out, if_neg (by simpa using Hdec.out)]
  go_wp2_with fail
  go_ret2
  exact ⟨none, by rw [hE]; rfl, HB3.out, fun _ => rfl, fun h => by rw [hE] at h; cases h⟩
 ·have hE : openE hd l = 0 := by rw [HE.out, if_pos (by simpa using Hdec.out)]
  go_wp2_with fail
  go_ret2
  obtain ⟨W4, hW4⟩ : ∃ W4, W4 = w3.alloc (.cells #[.slice (some ⟨g, off + 4, none⟩) n (cap - 4), .bool false] 161) := ⟨_, rfl⟩
  have hb4 : Below w3.heap.size w3 W4 := by rw [hW4]; exact (Below.refl _ _).alloc (Nat.le_refl _) _
  have hz4 : W4.heap.size = w3.heap.size + 1 := by rw [hW4]; simp
  have hBf : Below w.heap.size w W4 := HB3.out.trans (hb4.mono (by omega))
  have q0 : W4.cell? ⟨w3.heap.size, 0, none⟩ = some (.slice (some ⟨g, off + 4, none⟩) n (cap - 4)) := by rw [hW4]; simp [go_sem]
  have q1 : W4.cell? ⟨w3.heap.size, 1, none⟩ = some (.bool false) := by rw [hW4]; simp [go_sem]
  have qr : Room W4 w3.heap.size 2 := by
   rw [hW4]
   intro j hj
   have : j = 0 ∨ j = 1 := by omega
   rcases this with rfl | rfl <;> simp [go_sem]
  rw [← hW4]
  refine ⟨some ⟨w3.heap.size, 0, none⟩, by rw [hE]; rfl, hBf, fun h => absurd hE h, fun _ => ⟨w3.heap.size, rfl, by omega, ⟨⟨off + 4, cap - 4, by rw [hol]; exact q0, by omega, ?_⟩, q1, qr, by omega, HOb.out, by omega, by omega⟩⟩⟩
  intro j v hv
  have := HrowB.out j v hv
  exact below_at hBf this (lt_of_cell this)
theorem strW_app (a b : List Int) : strW a ++ strW b = strW (a ++ b) := by
 refine ByteArray.ext ?_
 simp [strW, ByteArray.data_append]
theorem strW_size (l : List Int) : (strW l).size = l.length := by simp [strW, ByteArray.size]
theorem conv_one (x : Int) (w : World) (hx : 0 ≤ x ∧ x < 256) : (convert 56 9 (.slice (some ⟨w.heap.size, 0, none⟩) 1 1)).run Tryz.prog (w.alloc (.cells #[.int .u8 x] 5)) = .ok (.string (strW [x])) (w.alloc (.cells #[.int .u8 x] 5)) :=
 conv_win (l := [x]) (cap := 1) (row_new w _ [.int .u8 x]) (by simpa using hx)
theorem conv_four (a b c d : Int) (w : World) (h : ∀ x ∈ [a, b, c, d], 0 ≤ x ∧ x < 256) : (convert 56 9 (.slice (some ⟨w.heap.size, 0, none⟩) 4 4)).run Tryz.prog (w.alloc (.cells #[.int .u8 a, .int .u8 b, .int .u8 c, .int .u8 d] 5)) = .ok (.string (strW [a, b, c, d])) (w.alloc (.cells #[.int .u8 a, .int .u8 b, .int .u8 c, .int .u8 d] 5)) :=
 conv_win (l := [a, b, c, d]) (cap := 4) (row_new w _ [.int .u8 a, .int .u8 b, .int .u8 c, .int .u8 d]) h
theorem rnumber_any (n : Int) (w : World) (hn : 0 ≤ n ∧ n ≤ 9223372036854775807) :
  Calls Tryz.prog 78 #[.int .i64 n] w fun e w' => e = .returned (.string (strW (numB n))) ∧ Below w.heap.size w w' := by
 go_enter Tryz.func78, Tryz.ntmps78
 go_wp2
 go_loopg [0, 3] 11 (fun g s0 s3 wr => ∃ (k : Nat) (m : Int) (acc : List Int), s0 = .int .i64 m ∧ s3 = .string (strW acc) ∧ k + 2 ≤ g ∧ 0 ≤ m ∧ m ≤ 9223372036854775807 ∧ acc.length + k ≤ 9 ∧ Hid (m < 128 ^ (k + 1) ∧ acc ++ numF k m = numB n ∧ Below w.heap.size w wr))
 case atStart => exact ⟨9, n, [], rfl, rfl, by omega, by omega, by omega, by simp, by have := hn.2; omega, rfl, Below.refl _ _⟩
 case round =>
  obtain ⟨k, m, acc, rfl, rfl, hg, hm0, hm1, hal, hI⟩ := hrel
  have z1 : (strW acc).size ≤ 9 := by rw [strW_size]; omega
  by_cases hlt : 128 ≤ m
  ·have d1 : decide (128 ≤ m) = true := by simpa using hlt
   have e1 : Int.tmod m 128 = m % 128 := Int.tmod_eq_emod_of_nonneg hm0
   have e2 : Int.tdiv m 128 = m / 128 := Int.tdiv_eq_ediv_of_nonneg hm0
   have b1 : IntKind.i64.wrap (m % 128 + 128) = m % 128 + 128 := by rw [IntKind.wrap_i64]; omega
   have b2 : IntKind.u8.wrap (m % 128 + 128) = m % 128 + 128 := byteOf _ (by omega) (by omega)
   have hcv := conv_one (m % 128 + 128) wr (by omega)
   have z2 : (strW [m % 128 + 128]).size ≤ 1 := by rw [strW_size]; simp
   obtain ⟨k', rfl⟩ : ∃ k', k = k' + 1 := by
    rcases k with _ | k'
    ·have := hI.out.1; simp at this; omega
    ·exact ⟨k', rfl⟩
   have HN : Hid (m / 128 < 128 ^ (k' + 1) ∧ acc ++ [m % 128 + 128] ++ numF k' (m / 128) = numB n ∧ Below w.heap.size w (wr.alloc (.cells #[.int .u8 (m % 128 + 128)] 5))) := by
    refine ⟨?_, ?_, hI.out.2.2.alloc hI.out.2.2.size _⟩
    ·have h1 := hI.out.1
     rw [Int.pow_succ] at h1
     omega
    ·rw [← hI.out.2.1, numF, if_pos (by omega)]
     simp
   clear hI
   go_wp2
   rw [strW_app]
   go_roundg (k' + 2)
   case measure => omega
   case rel => exact ⟨k', m / 128, _, rfl, rfl, Nat.le_refl _, by omega, by omega, by simp; omega, HN.out⟩
  ·have d1 : decide (128 ≤ m) = false := by simpa using hlt
   have b2 : IntKind.u8.wrap m = m := byteOf _ (by omega) (by omega)
   have hcv := conv_one m wr (by omega)
   have z2 : (strW [m]).size ≤ 1 := by rw [strW_size]; simp
   have HN : Hid (numB n = acc ++ [m]) := by
    show _ = _
    rw [← hI.out.2.1]
    rcases k with _ | k
    ·rfl
    ·rw [numF, if_neg (by omega)]
   have HB : Hid (Below w.heap.size w (wr.alloc (.cells #[.int .u8 m] 5))) := hI.out.2.2.alloc hI.out.2.2.size _
   clear hI
   go_wp2
   go_ret
   refine ⟨?_, HB.out⟩
   rw [HN.out, strW_app]
   rfl
theorem rsigned_any (n : Int) (w : World) (hn : -1000000000 ≤ n ∧ n ≤ 1000000000) :
  Calls Tryz.prog 80 #[.int .i64 n] w fun e w' => e = .returned (.string (strW (sgnB n))) ∧ Below w.heap.size w w' := by
 by_cases h : 0 ≤ n
 ·have e : sgnB n = numB (2 * n) := by rw [sgnB, sgnI, if_neg (by omega)]
  rw [e]
  clear e
  go_enter Tryz.func80, Tryz.ntmps80
  go_wp2_with (go_at_call 78; refine (rnumber_any (2 * n) _ (by omega)).mono ?_; rintro e w1 ⟨rfl, hb⟩)
  go_ret
  exact ⟨rfl, hb⟩
 ·have e : sgnB n = numB (-2 * n - 1) := by rw [sgnB, sgnI, if_pos (by omega)]
  rw [e]
  clear e
  go_enter Tryz.func80, Tryz.ntmps80
  go_wp2_with (go_at_call 78; refine (rnumber_any (-2 * n - 1) _ (by omega)).mono ?_; rintro e w1 ⟨rfl, hb⟩)
  go_ret
  exact ⟨rfl, hb⟩
theorem rSum_any (l : List Int) (w : World) (hl : l.length ≤ 1000000000) (hv : ∀ c ∈ l, 0 ≤ c ∧ c < 256) :
  Calls Tryz.prog 81 #[.string (strW l)] w fun e w' => e = .returned (.string (strW (sumB l))) ∧ Below w.heap.size w w' := by
 have Hv := hide hv
 clear hv
 have hz : (strW l).size = l.length := strW_size l
 go_enter Tryz.func81, Tryz.ntmps81
 go_wp2
 go_loopg [3, 4] (l.length + 3) (fun g s3 s4 wr => ∃ (i : Nat) (h : Int), s3 = .int .i64 h ∧ s4 = .int .i64 i ∧ l.length - i + 2 ≤ g ∧ i ≤ l.length ∧ 0 ≤ h ∧ h < 4294967296 ∧ wr = w ∧ Hid (h = sumF (l.take i)))
 case atStart => exact ⟨0, 5381, rfl, rfl, by omega, by omega, by omega, by omega, rfl, rfl⟩
 case round =>
  obtain ⟨i, h, rfl, rfl, hg, hi, h0, h1, rfl, hI⟩ := hrel
  by_cases hlt : i < l.length
  ·have d1 : decide ((i : Int) < (l.length : Int)) = true := by simp; omega
   have hii : (i : Int) < (l.length : Int) := by omega
   have hgt : (i : Nat) < (strW l).size := by omega
   have HX : Hid (((strW l)[i].toNat : Int) = l[i]) := by
    have hb := Hv.out l[i] (List.getElem_mem hlt)
    have e1 : (strW l)[i] = UInt8.ofNat l[i].toNat := by simp [strW, ByteArray.getElem_eq_getElem_data]
    have h8 : (UInt8.ofNat l[i].toNat).toNat = l[i].toNat % 256 := UInt8.toNat_ofNat'
    show _ = _
    rw [e1, h8]
    omega
   have HS : Hid (sumF (l.take (i + 1)) = sumS h l[i]) := by
    show _ = _
    rw [List.take_succ_eq_append_getElem hlt, sumF, List.foldl_append, hI.out]
    rfl
   have Hb := hide (Hv.out l[i] (List.getElem_mem hlt))
   go_wp2
   go_roundg (l.length - (i + 1) + 2)
   case measure => omega
   case rel =>
    have e := HX.out
    have hb := Hb.out
    have hs := sumS_lt h l[i]
    generalize l[i] = c at e hb HS hs
    refine ⟨i + 1, sumS h c, ?_, by go_num, Nat.le_refl _, by omega, hs.1, hs.2, rfl, HS.out.symm⟩
    rw [e]
    simp only [wrap64, IntKind.wrap_i64]
    congr 1
    have w1 : IntKind.i64.wrap c = c := by rw [IntKind.wrap_i64]; omega
    rw [show (c + 9223372036854775808) % 18446744073709551616 - 9223372036854775808 = c by omega, show (h * 33 + c + 9223372036854775808) % 18446744073709551616 - 9223372036854775808 = h * 33 + c by omega, Int.tmod_eq_emod_of_nonneg (by omega)]
    unfold sumS
    omega
  ·have d1 : decide ((i : Int) < (l.length : Int)) = false := by simp; omega
   have e1 : Int.tdiv h 16777216 = h / 16777216 := Int.tdiv_eq_ediv_of_nonneg h0
   have e2 : Int.tdiv h 65536 = h / 65536 := Int.tdiv_eq_ediv_of_nonneg h0
   have e3 : Int.tdiv h 256 = h / 256 := Int.tdiv_eq_ediv_of_nonneg h0
   have e4 : Int.tmod h 256 = h % 256 := Int.tmod_eq_emod_of_nonneg h0
   have e5 : Int.tmod (h / 65536) 256 = h / 65536 % 256 := Int.tmod_eq_emod_of_nonneg (by omega)
   have e6 : Int.tmod (h / 256) 256 = h / 256 % 256 := Int.tmod_eq_emod_of_nonneg (by omega)
   have b1 : IntKind.u8.wrap (h / 16777216) = h / 16777216 := byteOf _ (by omega) (by omega)
   have b2 : IntKind.u8.wrap (h / 65536 % 256) = h / 65536 % 256 := byteOf _ (by omega) (by omega)
   have b3 : IntKind.u8.wrap (h / 256 % 256) = h / 256 % 256 := byteOf _ (by omega) (by omega)
   have b4 : IntKind.u8.wrap (h % 256) = h % 256 := byteOf _ (by omega) (by omega)
   have hcv := conv_four (h / 16777216) (h / 65536 % 256) (h / 256 % 256) (h % 256) wr (by intro x hx; simp at hx; omega)
   have HE : Hid (sumB l = [h / 16777216, h / 65536 % 256, h / 256 % 256, h % 256]) := by
    show _ = _
    have hh := hI.out
    rw [List.take_of_length_le (by omega)] at hh
    rw [sumB, ← hh]
    congr 1
   have HB := hide (alloc_below wr (.cells #[.int .u8 (h / 16777216), .int .u8 (h / 65536 % 256), .int .u8 (h / 256 % 256), .int .u8 (h % 256)] 5))
   clear hI
   go_wp2
   go_ret
   exact ⟨by rw [HE.out]; rfl, HB.out⟩
def lenF : Nat → Int → Int → List Int → Int × List Int × Bool
 | 0, _, _, l => (0, l, false)
 | _ + 1, _, _, [] => (0, [], false)
 | f + 1, n, p, b :: l => if b < 128 then (n + b % 128 * p, l, true) else lenF f (n + b % 128 * p) (p * 128) l
def numL (lo hi : Int) (l : List Int) (bad : Bool) : Int × List Int × Bool :=
 if (lenF 7 0 1 l).2.2 then ((lenF 7 0 1 l).1, (lenF 7 0 1 l).2.1, bad || !inB (lenF 7 0 1 l).1 lo hi) else (0, (lenF 7 0 1 l).2.1, true)
structure RdS (w : World) (rb : Nat) (all l : List Int) (bad : Bool) : Prop where
 str : w.cell? ⟨rb, 0, none⟩ = some (.string (strW all))
 pos : ∃ i : Nat, i ≤ all.length ∧ all.drop i = l ∧ w.cell? ⟨rb, 1, none⟩ = some (.int .i64 i)
 bad : w.cell? ⟨rb, 2, none⟩ = some (.bool bad)
 room : Room w rb 3
theorem RdS.only {w w' : World} {rb : Nat} {all l : List Int} {bad : Bool} {S : Nat → Prop} (h : RdS w rb all l bad) (ho : Only S w w') (hr : ¬ S rb) : RdS w' rb all l bad := by
 obtain ⟨i, h1, h2, h3⟩ := h.pos
 exact ⟨ho.at h.str hr, ⟨i, h1, h2, ho.at h3 hr⟩, ho.at h.bad hr, h.room.only ho hr⟩
theorem RdS.below {w w' : World} {rb : Nat} {all l : List Int} {bad : Bool} (h : RdS w rb all l bad) (hb : Below w.heap.size w w') : RdS w' rb all l bad := h.only (Only.new (S := fun _ => False) hb) (by simp)
theorem RdS.lt {w : World} {rb : Nat} {all l : List Int} {bad : Bool} (h : RdS w rb all l bad) : rb < w.heap.size := lt_of_cell h.str
theorem RdS.step {w : World} {rb : Nat} {all l l' : List Int} {bad : Bool} (h : RdS w rb all l bad) (i : Nat) (hi : i ≤ all.length) (hl : all.drop i = l') : RdS (w.setCell ⟨rb, 1, none⟩ (.int .i64 i)) rb all l' bad := by
 refine ⟨?_, ⟨i, hi, hl, World.cell?_setCell_same' _ _ _ (h.room 1 (by omega)).1⟩, ?_, h.room.setCell _ _⟩
 ·rw [World.cell?_setCell_other _ _ _ _ (by simp)]; exact h.str
 ·rw [World.cell?_setCell_other _ _ _ _ (by simp)]; exact h.bad
theorem RdS.mark {w : World} {rb : Nat} {all l : List Int} {bad : Bool} (h : RdS w rb all l bad) (b : Bool) : RdS (w.setCell ⟨rb, 2, none⟩ (.bool b)) rb all l b := by
 obtain ⟨i, h1, h2, h3⟩ := h.pos
 refine ⟨?_, ⟨i, h1, h2, ?_⟩, World.cell?_setCell_same' _ _ _ (h.room 2 (by omega)).1, h.room.setCell _ _⟩
 ·rw [World.cell?_setCell_other _ _ _ _ (by simp)]; exact h.str
 ·rw [World.cell?_setCell_other _ _ _ _ (by simp)]; exact h3
theorem lenF_end (n p : Int) (k : Nat) (l : List Int) (h : k = 0 ∨ l = []) : lenF k n p l = (0, l, false) := by
 rcases h with rfl | rfl
 ·rfl
 ·cases k <;> rfl
theorem rdNum_any (rb : Nat) (all l : List Int) (bad : Bool) (lo hi : Int) (w : World) (h : RdS w rb all l bad) (hv : ∀ c ∈ all, 0 ≤ c ∧ c < 256) (hl : all.length ≤ 1000000000) :
  Calls Tryz.prog 67 #[.pointer (some ⟨rb, 0, none⟩), .int .i64 lo, .int .i64 hi] w fun e w' => e = .returned (.int .i64 (numL lo hi l bad).1) ∧ Only (· = rb) w w' ∧ RdS w' rb all (numL lo hi l bad).2.1 (numL lo hi l bad).2.2 := by
 have Hv := hide hv
 have H := hide h
 have hz : (strW all).size = all.length := strW_size all
 have hrl := h.lt
 clear hv h
 go_enter Tryz.func67, Tryz.ntmps67
 go_wp2
 go_loopg [7, 8, 9, 10, 11] 9 (fun g s7 s8 s9 _ _ wr => ∃ (k : Nat) (n p : Int) (m : List Int), s7 = .int .i64 n ∧ s8 = .int .i64 p ∧ s9 = .int .i64 k ∧ 7 - k + 1 ≤ g ∧ k ≤ 7 ∧ 0 ≤ n ∧ n < p ∧ 1 ≤ p ∧ p ≤ 562949953421312 ∧ Hid (p = 128 ^ k ∧ lenF (7 - k) n p m = lenF 7 0 1 l ∧ Only (· = rb) w wr ∧ RdS wr rb all m bad))
 case atStart => exact ⟨0, 0, 1, l, rfl, rfl, rfl, by omega, by omega, by omega, by omega, by omega, by omega, by simp, rfl, Only.refl _ _, H.out⟩
 case round =>
  obtain ⟨k, n, p, m, rfl, rfl, rfl, hg, hk, hn0, hn1, hp0, hp1, hI⟩ := hrel
  obtain ⟨hp, hlen, hO, hR⟩ := hI.out
  obtain ⟨i, hile, hd, c1⟩ := hR.pos
  have c0 := hR.str
  have c2 := hR.bad
  have f1 := (hR.room 1 (by omega)).2
  have f2 := (hR.room 2 (by omega)).2
  have hzr := hO.size
  by_cases hyes : k < 7 ∧ i < all.length
  ·obtain ⟨hk7, hil⟩ := hyes
   have d1 : decide ((k : Int) < 7) = true := by simp; omega
   have d2 : decide ((i : Int) < (all.length : Int)) = true := by simp; omega
   have hgt : (i : Nat) < (strW all).size := by omega
   have hp6 : p ≤ 4398046511104 := by
    have : k = 0 ∨ k = 1 ∨ k = 2 ∨ k = 3 ∨ k = 4 ∨ k = 5 ∨ k = 6 := by omega
    rcases this with rfl | rfl | rfl | rfl | rfl | rfl | rfl <;> simp at hp <;> omega
   have HX : Hid (((strW all)[i].toNat : Int) = all[i]) := by
    have hb := Hv.out all[i] (List.getElem_mem hil)
    have e1 : (strW all)[i] = UInt8.ofNat all[i].toNat := by simp [strW, ByteArray.getElem_eq_getElem_data]
    have h8 : (UInt8.ofNat all[i].toNat).toNat = all[i].toNat % 256 := UInt8.toNat_ofNat'
    show _ = _
    rw [e1, h8]
    omega
   have hb := Hv.out all[i] (List.getElem_mem hil)
   have HF : Hid (lenF 7 0 1 l = if all[i] < 128 then (n + all[i] % 128 * p, all.drop (i + 1), true) else lenF (7 - (k + 1)) (n + all[i] % 128 * p) (p * 128) (all.drop (i + 1))) := by
    show _ = _
    rw [← hlen, ← hd, List.drop_eq_getElem_cons hil, show 7 - k = (7 - (k + 1)) + 1 by omega, lenF]
   have HP : Hid (p * 128 = 128 ^ (k + 1)) := by show _ = _; rw [hp, Int.pow_succ]
   have HOR : Hid (∀ q, Only (· = rb) w ((wr.drewN q).setCell ⟨rb, 1, none⟩ (.int .i64 ((i : Int) + 1))) ∧ RdS ((wr.drewN q).setCell ⟨rb, 1, none⟩ (.int .i64 ((i : Int) + 1))) rb all (all.drop (i + 1)) bad) := by
    intro q
    refine ⟨(hO.trans (Only.new (below_drewN (Below.refl _ _) _))).setCell (p := ⟨rb, 1, none⟩) rfl _, ?_⟩
    have := (hR.below (below_drewN (Below.refl _ _) q)).step (i + 1) (by omega) rfl
    simpa using this
   generalize all[i] = b at HX hb HF
   have hw1 : IntKind.i64.wrap ((i : Int) + 1) = (i : Int) + 1 := by rw [IntKind.wrap_i64]; omega
   have hk1 : IntKind.i64.wrap ((k : Int) + 1) = (k : Int) + 1 := by rw [IntKind.wrap_i64]; omega
   have hbp : 0 ≤ b % 128 * p ∧ b % 128 * p ≤ 127 * p := ⟨Int.mul_nonneg (by omega) (by omega), Int.mul_le_mul_of_nonneg_right (by omega) (by omega)⟩
   have m1 : wrap64 (b % 128 * p) = b % 128 * p := by simp only [wrap64]; omega
   have m2 : wrap64 (n + b % 128 * p) = n + b % 128 * p := by simp only [wrap64]; omega
   have m3 : wrap64 (p * 128) = p * 128 := by simp only [wrap64]; omega
   have m4 : Int.tmod b 128 = b % 128 := Int.tmod_eq_emod_of_nonneg hb.1
   have m5 : wrap64 b = b := by simp only [wrap64]; omega
   have hx := HX.out
   have Hbp : Hid (0 ≤ n + b % 128 * p ∧ n + b % 128 * p < p * 128) := ⟨by omega, by omega⟩
   clear hI hp hlen hO hR hd HX hbp
   by_cases hb8 : b < 128
   ·have d3 : decide (b < 128) = true := by simpa using hb8
    have HF2 : Hid (numL lo hi l bad = (n + b % 128 * p, all.drop (i + 1), bad || !inB (n + b % 128 * p) lo hi)) := by
     show _ = _
     unfold numL
     rw [HF.out, if_pos hb8]
     rfl
    clear HF
    rcases bad with _ | _
    all_goals
     go_wp2_with fail
     go_quiet (fail)
     go_wp2_with fail
     go_quiet (fail)
     go_wp2_with (go_at_call 57; refine (in_any _ _ _ _).mono ?_; rintro e w1 ⟨rfl, rfl⟩)
     go_ret
     rw [HF2.out]
     refine ⟨rfl, ?_, ?_⟩
     ·exact (HOR.out _).1.setCell (p := ⟨rb, 2, none⟩) rfl _
     ·exact (HOR.out _).2.mark _
   ·have d3 : decide (b < 128) = false := by simpa using hb8
    have HF2 : Hid (lenF (7 - (k + 1)) (n + b % 128 * p) (p * 128) (all.drop (i + 1)) = lenF 7 0 1 l) := by
     show _ = _
     rw [HF.out, if_neg hb8]
    clear HF
    go_wp2_with fail
    go_quiet (fail)
    go_wp2_with fail
    go_quiet (fail)
    go_wp2_with fail
    go_roundg (7 - (k + 1) + 1)
    case measure => omega
    case rel => exact ⟨k + 1, n + b % 128 * p, p * 128, all.drop (i + 1), congrArg (Value.int .i64) m2, rfl, by go_num, Nat.le_refl _, by omega, Hbp.out.1, Hbp.out.2, by omega, by omega, HP.out, HF2.out, (HOR.out _).1, (HOR.out _).2⟩
  ·have HF : Hid (numL lo hi l bad = (0, m, true)) := by
    show _ = _
    have he : lenF (7 - k) n p m = (0, m, false) := by
     refine lenF_end n p _ m ?_
     by_cases hk7 : k < 7
     ·right
      rw [← hd]
      exact List.drop_of_length_le (by omega)
     ·left; omega
    unfold numL
    rw [← hlen, he]
    rfl
   have HOR : Hid (∀ q, Only (· = rb) w (wr.drewN q) ∧ RdS (wr.drewN q) rb all m bad) := by
    intro q
    exact ⟨hO.trans (Only.new (below_drewN (Below.refl _ _) _)), hR.below (below_drewN (Below.refl _ _) q)⟩
   by_cases hk7 : k < 7
   ·have d1 : decide ((k : Int) < 7) = true := by simp; omega
    have d2 : decide ((i : Int) < (all.length : Int)) = false := by simp; omega
    have d3 : decide (i < all.length) = false := by simp; omega
    clear hI hp hlen hO hR hd hyes
    go_wp2_with fail
    go_quiet (fail)
    go_wp2_with fail
    go_ret
    rw [HF.out]
    exact ⟨rfl, (HOR.out _).1.setCell (p := ⟨rb, 2, none⟩) rfl _, (HOR.out _).2.mark _⟩
   ·have d1 : decide ((k : Int) < 7) = false := by simp; omega
    clear hI hp hlen hO hR hd hyes
    go_wp2_with fail
    go_quiet (fail)
    go_wp2_with fail
    go_ret
    rw [HF.out]
    exact ⟨rfl, (HOR.out _).1.setCell (p := ⟨rb, 2, none⟩) rfl _, (HOR.out _).2.mark _⟩
end Go.Proofs.YtndlmgocldckfaaGreat
