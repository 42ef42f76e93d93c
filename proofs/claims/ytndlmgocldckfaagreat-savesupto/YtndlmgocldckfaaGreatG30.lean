import Derived.Test.YtndlmgocldckfaaGreatG29
import Derived.Laws.IdiomStrings
import Derived.Test.YtndlmgocldckfaaGreatG04
import Derived.Deep.LoopGhost
namespace Go.Proofs.YtndlmgocldckfaaGreat
open Go.RowKit
set_option linter.unusedVariables false
set_option linter.unusedSimpArgs false
set_option maxRecDepth 100000
set_option maxHeartbeats 4000000
theorem numF_down : ∀ (k : Nat) (m : Int), 0 ≤ m → m < 128 ^ (k + 1) → numF (k + 1) m = numF k m
 | 0, m, h0, h1 => by
  simp at h1
  show (if 127 < m then (m % 128 + 128) :: numF 0 (m / 128) else [m]) = [m]
  rw [if_neg (by omega)]
 | k + 1, m, h0, h1 => by
  rw [numF]
  by_cases h : 127 < m
  ·rw [if_pos h, numF_down k (m / 128) (by omega) (by rw [Int.pow_succ] at h1; omega), numF, if_pos h]
  ·rw [if_neg h, numF, if_neg h]
theorem numRF_numF (rest : List Int) : ∀ (k : Nat) (m : Int) (i : Nat) (acc : Int) (f : Nat), 0 ≤ m → m < 128 ^ (k + 1) → k + 1 ≤ f → (i = 0 ∨ 0 < m) → numRF f i acc (numF k m ++ rest) = (acc + m * 128 ^ i, i + (numF k m).length)
 | 0, m, i, acc, f, h0, h1, hf, hi => by
  obtain ⟨f', rfl⟩ : ∃ f', f = f' + 1 := ⟨f - 1, by omega⟩
  simp at h1
  simp only [numF, List.cons_append, List.nil_append]
  rw [numRF, if_neg (by omega), if_pos h1, show m % 128 = m by omega]
  rfl
 | k + 1, m, i, acc, f, h0, h1, hf, hi => by
  obtain ⟨f', rfl⟩ : ∃ f', f = f' + 1 := ⟨f - 1, by omega⟩
  rw [numF]
  by_cases h : 127 < m
  ·rw [if_pos h, List.cons_append, numRF, if_neg (by omega), if_neg (by omega)]
   rw [numRF_numF rest k (m / 128) (i + 1) _ f' (by omega) (by rw [Int.pow_succ] at h1; omega) (by omega) (.inr (by omega))]
   have e1 : (m % 128 + 128) % 128 = m % 128 := by omega
   rw [e1, Int.pow_succ]
   have e2 : m = m / 128 * 128 + m % 128 := by omega
   refine Prod.ext ?_ (by simp; omega)
   simp only
   generalize (128 : Int) ^ i = X
   have : m * X = (m / 128 * 128 + m % 128) * X := by rw [← e2]
   rw [this, Int.add_mul, Int.mul_assoc (m / 128) 128 X, Int.mul_comm 128 X]
   omega
  ·rw [if_neg h]
   simp only [List.cons_append, List.nil_append]
   rw [numRF, if_neg (by omega), if_pos (by omega), show m % 128 = m by omega]
   rfl
theorem numR_numB (n : Int) (rest : List Int) (h : 0 ≤ n ∧ n ≤ 9223372036854775807) : numR (numB n ++ rest) = (n, (numB n).length) := by
 unfold numR numB
 rw [numF_down 8 n h.1 (by simp; omega), numRF_numF rest 8 n 0 0 9 h.1 (by simp; omega) (by omega) (.inl rfl)]
 simp
structure RdP (w : World) (rb g : Nat) (l : List Int) (flt : Bool) : Prop where
 cell : ∃ off cap, w.cell? ⟨rb, 0, none⟩ = some (.slice (some ⟨g, off, none⟩) l.length cap) ∧ l.length ≤ cap ∧ RowAt w g off (byteV l)
 flt : w.cell? ⟨rb, 1, none⟩ = some (.bool flt)
 room : Room w rb 2
 ne : g ≠ rb
 bytes : ∀ c ∈ l, 0 ≤ c ∧ c < 256
 len : l.length ≤ 1000000000000000
 glt : g < w.heap.size
def readF (low high : Int) (l : List Int) (flt : Bool) : Int × List Int × Bool :=
 if flt = true ∨ (numR l).2 = 0 ∨ (numR l).1 < low ∨ high < (numR l).1 then (0, l, true) else ((numR l).1, l.drop (numR l).2, false)
theorem numRF_size : ∀ (f i : Nat) (acc : Int) (l : List Int), (numRF f i acc l).2 = 0 ∨ (i < (numRF f i acc l).2 ∧ (numRF f i acc l).2 ≤ i + l.length)
 | 0, i, acc, l => by cases l <;> simp [numRF]
 | f + 1, i, acc, [] => by simp [numRF]
 | f + 1, i, acc, c :: l => by
  rw [numRF]
  split
  ·simp
  ·split
   ·simp
   ·rcases numRF_size f (i + 1) (acc + c % 128 * 128 ^ i) l with h | h
    ·exact .inl h
    ·refine .inr ?_
     simp only [List.length_cons]
     omega
theorem numR_size (l : List Int) : (numR l).2 ≤ l.length := by
 rcases numRF_size 9 0 0 l with h | h
 ·unfold numR; omega
 ·unfold numR; omega
theorem RdP.next {w w1 : World} {rb g : Nat} {l l' : List Int} {flt : Bool} (h : RdP w rb g l flt) (hm : Room w1 rb 2) (hf : w1.cell? ⟨rb, 1, none⟩ = some (.bool flt)) (off' cap' : Nat) (hc : l'.length ≤ cap') (hr : RowAt w1 g off' (byteV l')) (hsub : ∀ c ∈ l', c ∈ l) (hl : l'.length ≤ l.length) (hgl : g < w1.heap.size) :
  RdP (w1.setCell ⟨rb, 0, none⟩ (.slice (some ⟨g, off', none⟩) l'.length cap')) rb g l' flt := by
 have hne := h.ne
 refine ⟨⟨off', cap', World.cell?_setCell_same' _ _ _ (hm 0 (by omega)).1, hc, ?_⟩, (World.cell?_setCell_other _ _ _ _ (by simp)).trans hf, hm.setCell _ _, h.ne, fun c hc => h.bytes c (hsub c hc), by have := h.len; omega, by simpa [World.setCell] using hgl⟩
 exact hr.setCell _ _ (by intro j _ hc; simp only [Addr.mk.injEq] at hc; exact hne hc.1.symm)
theorem RdP.fault {w w1 : World} {rb g : Nat} {l : List Int} {flt : Bool} (h : RdP w rb g l flt) (hb : Below w.heap.size w w1) : RdP (w1.setCell ⟨rb, 1, none⟩ (.bool true)) rb g l true := by
 obtain ⟨off, cap, hc, hlc, hr⟩ := h.cell
 have hrl := lt_of_cell hc
 have hne := h.ne
 have hm := h.room.below hb hrl
 refine ⟨⟨off, cap, (World.cell?_setCell_other _ _ _ _ (by simp)).trans (below_at hb hc hrl), hlc, ?_⟩, World.cell?_setCell_same' _ _ _ (hm 1 (by omega)).1, hm.setCell _ _, h.ne, h.bytes, h.len, by have := h.glt; have := hb.size; simp [World.setCell]; omega⟩
 refine RowAt.setCell (fun j v hv => below_at hb (hr j v hv) (lt_of_cell (hr j v hv))) _ _ (by intro j _ hc; simp only [Addr.mk.injEq] at hc; exact hne hc.1.symm)
theorem rNum_any (rb g : Nat) (l : List Int) (flt : Bool) (low high : Int) (w : World) (h : RdP w rb g l flt) :
  Calls Tryz.prog 104 #[.pointer (some ⟨rb, 0, none⟩), .int .i64 low, .int .i64 high] w fun e w' => e = .returned (.int .i64 (readF low high l flt).1) ∧ Only (· = rb) w w' ∧ RdP w' rb g (readF low high l flt).2.1 (readF low high l flt).2.2 := by
 obtain ⟨off, cap, hc, hlc, hrow⟩ := h.cell
 have hf := h.flt
 have hlen := h.len
 have hrl := lt_of_cell hc
 have H := hide h
 have Hrow := hide hrow
 have HN := hide (num_any g off cap l w hrow (by omega) h.bytes hlc)
 have hsz := numR_size l
 have hz0 := (h.room 0 (by omega)).2
 have hz1 := (h.room 1 (by omega)).2
 have HF : Hid (readF low high l flt = if flt = true ∨ (numR l).2 = 0 ∨ (numR l).1 < low ∨ high < (numR l).1 then (0, l, true) else ((numR l).1, l.drop (numR l).2, false)) := by show _ = _; rfl
 clear h hrow
 go_enter Tryz.func104, Tryz.ntmps104
 go_wp2_with fail
 refine HN.out.mono ?_
 rintro e w1 ⟨rfl, hb1⟩
 have c1 := below_at hb1 hc hrl
 have f1 := below_at hb1 hf hrl
 have hm1 := H.out.room.below hb1 hrl
 have y0 := (hm1 0 (by omega)).2
 have y1 := (hm1 1 (by omega)).2
 generalize hnr : numR l = nr at HF hsz ⊢
 obtain ⟨n, sz⟩ := nr
 simp only at HF hsz ⊢
 have HB1 := hide hb1
 have Hm1 := hide hm1
 clear hb1 hc hf HN hz0 hz1 hm1
 have hsum : flt = true ∨ (flt = false ∧ (sz = 0 ∨ (sz ≠ 0 ∧ (n < low ∨ (¬ n < low ∧ (high < n ∨ ¬ high < n)))))) := by
  rcases flt with _ | _
  ·refine .inr ⟨rfl, ?_⟩
   rcases Nat.eq_zero_or_pos sz with h | h
   ·exact .inl h
   ·refine .inr ⟨by omega, ?_⟩
    omega
  ·exact .inl rfl
 have HBad : Hid ((flt = true ∨ sz = 0 ∨ n < low ∨ high < n) → readF low high l flt = (0, l, true)) := fun hb => by rw [HF.out, if_pos hb]
 have HWf : Hid (Only (· = rb) w (w1.setCell ⟨rb, 1, none⟩ (.bool true))) := (Only.new (S := (· = rb)) HB1.out).setCell (p := ⟨rb, 1, none⟩) (show rb = rb from rfl) _
 rcases hsum with rfl | ⟨rfl, hz | ⟨hz, hnl | ⟨hnl, hnh | hnh⟩⟩⟩
 ·go_wp2_with fail
  go_ret
  rw [HBad.out (by simp)]
  exact ⟨rfl, HWf.out, H.out.fault HB1.out⟩
 ·have d1 : ((sz : Int) == 0) = true := by rw [beq_iff_eq]; omega
  go_wp2_with fail
  go_ret
  rw [HBad.out (.inr (.inl hz))]
  exact ⟨rfl, HWf.out, H.out.fault HB1.out⟩
 ·have d1 : ((sz : Int) == 0) = false := by rw [beq_eq_false_iff_ne]; omega
  have d2 : decide (n < low) = true := by simpa using hnl
  go_wp2_with fail
  go_ret
  rw [HBad.out (.inr (.inr (.inl hnl)))]
  exact ⟨rfl, HWf.out, H.out.fault HB1.out⟩
 ·have d1 : ((sz : Int) == 0) = false := by rw [beq_eq_false_iff_ne]; omega
  have d2 : decide (n < low) = false := by simpa using hnl
  have d3 : decide (high < n) = true := by simpa using hnh
  go_wp2_with fail
  go_ret
  rw [HBad.out (.inr (.inr (.inr hnh)))]
  exact ⟨rfl, HWf.out, H.out.fault HB1.out⟩
 ·have d1 : ((sz : Int) == 0) = false := by rw [beq_eq_false_iff_ne]; omega
  have d2 : decide (n < low) = false := by simpa using hnl
  have d3 : decide (high < n) = false := by simpa using hnh
  have hsi : (sz : Int) ≤ (l.length : Int) := by omega
  have hok : readF low high l false = (n, l.drop sz, false) := by
   rw [HF.out, if_neg]
   rintro (h | h | h | h)
   ·cases h
   ·exact hz h
   ·exact hnl h
   ·exact hnh h
  have Hok := hide hok
  have Hf1 := hide f1
  have hdl : (l.drop sz).length = l.length - sz := by simp
  have Hdl := hide hdl
  clear hok hdl
  go_wp2_with fail
  all_goals
   go_ret
   rw [Hok.out]
   refine ⟨rfl, (Only.new (S := (· = rb)) HB1.out).setCell (p := ⟨rb, 0, none⟩) (show rb = rb from rfl) _, ?_⟩
   have hrow1 : RowAt w1 g (off + sz) (byteV (l.drop sz)) := by
    intro j v hv
    have h1 := Hrow.out (sz + j) v (by rw [← hv]; simp [byteV])
    have h2 := below_at HB1.out h1 (lt_of_cell h1)
    rw [← Nat.add_assoc] at h2
    exact h2
   rw [← Hdl.out]
   first
    | exact H.out.next Hm1.out Hf1.out _ _ (by rw [Hdl.out]; omega) hrow1 (fun c hc => List.mem_of_mem_drop hc) (by rw [Hdl.out]; omega) (by have := H.out.glt; have := HB1.out.size; omega)
    | (refine H.out.next Hm1.out Hf1.out _ _ (by rw [Hdl.out]; omega) ?_ (fun c hc => List.mem_of_mem_drop hc) (by rw [Hdl.out]; omega) (by have := H.out.glt; have := HB1.out.size; omega)
       have h0 : l.drop sz = [] := List.eq_nil_of_length_eq_zero (by rw [Hdl.out]; omega)
       rw [h0]
       intro j v hv
       simp [byteV] at hv)
def strW (l : List Int) : ByteArray := ⟨(l.map fun b => UInt8.ofNat b.toNat).toArray⟩
theorem strW_inj {a b : List Int} (ha : ∀ c ∈ a, 0 ≤ c ∧ c < 256) (hb : ∀ c ∈ b, 0 ≤ c ∧ c < 256) (h : strW a = strW b) : a = b := by
 unfold strW at h
 have h1 : (a.map fun b => UInt8.ofNat b.toNat) = (b.map fun b => UInt8.ofNat b.toNat) := by
  have := congrArg (fun x : ByteArray => x.data.toList) h
  simpa using this
 clear h
 induction a generalizing b with
 | nil => cases b with
  | nil => rfl
  | cons y b => simp at h1
 | cons x a ih => cases b with
  | nil => simp at h1
  | cons y b =>
   simp only [List.map_cons, List.cons.injEq] at h1
   have hx := ha x (List.mem_cons_self ..)
   have hy := hb y (List.mem_cons_self ..)
   have e : x = y := by
    have := congrArg UInt8.toNat h1.1
    have e1 : (UInt8.ofNat x.toNat).toNat = x.toNat % 256 := UInt8.toNat_ofNat'
    have e2 : (UInt8.ofNat y.toNat).toNat = y.toNat % 256 := UInt8.toNat_ofNat'
    rw [e1, e2] at this
    omega
   rw [e, ih (fun c hc => ha c (List.mem_cons_of_mem _ hc)) (fun c hc => hb c (List.mem_cons_of_mem _ hc)) h1.2]
theorem strNe {a b : List Int} (ha : ∀ c ∈ a, 0 ≤ c ∧ c < 256) (hb : ∀ c ∈ b, 0 ≤ c ∧ c < 256) (h : ¬ a = b) : ((strW a).toList == (strW b).toList) = false := by
 rw [beq_eq_false_iff_ne]
 intro hc
 rw [ByteArray.toList_eq, ByteArray.toList_eq] at hc
 refine h (strW_inj ha hb ?_)
 exact ByteArray.ext (Array.ext' hc)
theorem conv_win {w : World} {g off cap : Nat} {l : List Int} (h : RowAt w g off (byteV l)) (hb : ∀ b ∈ l, 0 ≤ b ∧ b < 256) : (convert 56 9 (.slice (some ⟨g, off, none⟩) l.length cap)).run Tryz.prog w = .ok (.string (strW l)) w := by
 have := run_convert_bytes_back (P := Tryz.prog) w 56 9 5 ⟨g, off, none⟩ cap (l.map fun b => UInt8.ofNat b.toNat) Tryz.underlying56 Tryz.underlying5 Tryz.underlying9 (by
  intro j hj
  have hj' : j < l.length := by simpa using hj
  have hc := h j (.int .u8 l[j]) (by simp [byteV, hj'])
  have hx := hb l[j] (List.getElem_mem hj')
  rw [Addr.add_lit, hc]
  simp only [List.getElem_map]
  congr 2
  have h8 : (UInt8.ofNat l[j].toNat).toNat = l[j].toNat % 256 := UInt8.toNat_ofNat'
  rw [h8]
  omega)
 simpa [strW] using this
theorem bEqual_any (g1 o1 c1 g2 o2 c2 : Nat) (l l2 : List Int) (w : World) (h1 : RowAt w g1 o1 (byteV l)) (h2 : RowAt w g2 o2 (byteV l2)) (hb : ∀ b ∈ l, 0 ≤ b ∧ b < 256) (hb2 : ∀ b ∈ l2, 0 ≤ b ∧ b < 256) :
  Calls Tryz.prog 103 #[.slice (some ⟨g1, o1, none⟩) l.length c1, .slice (some ⟨g2, o2, none⟩) l2.length c2] w fun e w' => e = .returned (.bool (decide (l = l2))) ∧ Below w.heap.size w w' := by
 have k1 := conv_win (cap := c1) h1 hb
 have k2 := conv_win (cap := c2) h2 hb2
 have hd : decide (l = l2) = ((strW l).toList == (strW l2).toList) := by
  by_cases h : l = l2
  ·subst h; simp
  ·rw [strNe hb hb2 h]; simp [h]
 rw [hd]
 clear h1 h2 hd
 go_enter Tryz.func103, Tryz.ntmps103
 go_wp2
 go_ret
 exact ⟨rfl, Below.refl _ _⟩
def openE (hd l : List Int) : Int := if l.length < 8 ∨ l.take 4 ≠ hd then 4 else if l.drop (l.length - 4) ≠ sumB (l.take (l.length - 4)) then 5 else 0
def openL (l : List Int) : List Int := (l.take (l.length - 4)).drop 4
theorem openL_ok (hd body : List Int) (hhl : hd.length = 4) : openL ((hd ++ body) ++ sumB (hd ++ body)) = body := by
 unfold openL
 rw [List.length_append, sumB_len, Nat.add_sub_cancel, List.take_left, List.drop_left' hhl]
theorem openE_ok (hd body : List Int) (hhl : hd.length = 4) : openE hd ((hd ++ body) ++ sumB (hd ++ body)) = 0 := by
 unfold openE
 rw [if_neg, if_neg]
 ·rw [List.length_append, sumB_len, Nat.add_sub_cancel, List.take_left, List.drop_left]
  simp
 ·rintro (h | h)
  ·simp [sumB_len, hhl] at h; omega
  ·apply h
   rw [List.append_assoc, List.take_left' hhl]
theorem open_short (sa : Option Addr) (n cap : Nat) (s : ByteArray) (w : World) (hs : s.size = 4) (hn : n < 8) :
  Calls Tryz.prog 64 #[.string s, .slice sa n cap] w fun e w' => e = .returned (.tuple #[.pointer none, .int .i64 4]) ∧ Below w.heap.size w w' := by
 have hw1 : IntKind.i64.wrap ((n : Int) - 4) = (n : Int) - 4 := by rw [IntKind.wrap_i64]; omega
 have dd1 : decide ((n : Int) - 4 < 4) = true := by simp; omega
 go_enter Tryz.func64, Tryz.ntmps64
 go_wp2_with fail
 go_ret2
 exact ⟨rfl, Below.refl _ _⟩
theorem open_any (g off cap : Nat) (hd l : List Int) (w : World) (hr : RowAt w g off (byteV l)) (hcap : l.length ≤ cap) (hb : ∀ b ∈ l, 0 ≤ b ∧ b < 256) (hl : l.length ≤ 1000000000000000) (s : ByteArray) (hs : s = strW hd) (hhl : hd.length = 4) (hhb : ∀ b ∈ hd, 0 ≤ b ∧ b < 256) (hgl : g < w.heap.size) :
  Calls Tryz.prog 64 #[.string s, .slice (some ⟨g, off, none⟩) l.length cap] w fun e w' => ∃ p, e = .returned (.tuple #[.pointer p, .int .i64 (openE hd l)]) ∧ Below w.heap.size w w' ∧ (openE hd l ≠ 0 → p = none) ∧ (openE hd l = 0 → ∃ rb, p = some ⟨rb, 0, none⟩ ∧ w.heap.size ≤ rb ∧ RdP w' rb g (openL l) false) := by
 have hss : s.size = 4 := by rw [hs]; simp [strW, ByteArray.size, hhl]
 by_cases h8 : l.length < 8
 ·have hE : openE hd l = 4 := by unfold openE; rw [if_pos (.inl h8)]
  rw [hE]
  refine (open_short _ _ _ s w hss h8).mono ?_
  rintro e w' ⟨rfl, hb⟩
  exact ⟨none, rfl, hb, fun _ => rfl, fun h => by cases h⟩
 obtain ⟨n, hn⟩ : ∃ n, l.length = n + 8 := ⟨l.length - 8, by omega⟩
 have hrow4 : RowAt w g off (byteV (l.take 4)) := by
  intro j v hv
  refine hr j v ?_
  have hj := (List.getElem?_eq_some_iff.1 hv).1
  simp only [byteV, List.length_map, List.length_take] at hj
  rw [← hv]
  simp only [byteV, List.getElem?_map, List.getElem?_take]
  rw [if_pos (by omega)]
 have hl4 : (l.take 4).length = 4 := by simp; omega
 have k1 := conv_win (cap := cap) hrow4 (fun b hb' => hb b (List.mem_of_mem_take hb'))
 rw [hl4] at k1
 have hw1 : IntKind.i64.wrap ((n : Int) + 8 - 4) = (n : Int) + 4 := by rw [IntKind.wrap_i64]; omega
 have dd1 : decide ((n : Int) + 4 < 4) = false := by simp; omega
 have hc1 : (n : Int) + 8 ≤ (cap : Int) := by omega
 have hc2 : (n : Int) + 4 ≤ (cap : Int) := by omega
 have hc4 : (4 : Int) ≤ (cap : Int) := by omega
 rw [hn]
 by_cases h4 : l.take 4 = hd
 rotate_left
 ·have hE : openE hd l = 4 := by unfold openE; rw [if_pos (.inr h4)]
  have hbe : ((strW (l.take 4)).toList == s.toList) = false := by rw [hs]; exact strNe (fun b hb' => hb b (List.mem_of_mem_take hb')) hhb h4
  rw [hE]
  generalize strW (l.take 4) = s4 at k1 hbe
  clear hE h4 hrow4 hr hs
  go_enter Tryz.func64, Tryz.ntmps64
  go_wp2_with fail
  go_ret2
  exact ⟨none, rfl, Below.refl _ _, fun _ => rfl, fun h => by cases h⟩
 have hbe : strW (l.take 4) = s := by rw [hs, h4]
 rw [hbe] at k1
 obtain ⟨hd', hhd⟩ : ∃ hd', hd' = l.take (l.length - 4) := ⟨_, rfl⟩
 have hdl : hd'.length = n + 4 := by rw [hhd]; simp; omega
 have hdb : ∀ b ∈ hd', 0 ≤ b ∧ b < 256 := fun b hb' => hb b (by rw [hhd] at hb'; exact List.mem_of_mem_take hb')
 have hrow1 : RowAt w g off (byteV hd') := by
  intro j v hv
  refine hr j v ?_
  have hj := (List.getElem?_eq_some_iff.1 hv).1
  simp only [byteV, List.length_map] at hj
  rw [← hv, hhd]
  simp only [byteV, List.getElem?_map, List.getElem?_take]
  rw [if_pos (by omega)]
 obtain ⟨tl, htl⟩ : ∃ tl, tl = l.drop (l.length - 4) := ⟨_, rfl⟩
 have htll : tl.length = 4 := by rw [htl]; simp; omega
 have htb : ∀ b ∈ tl, 0 ≤ b ∧ b < 256 := fun b hb' => hb b (by rw [htl] at hb'; exact List.mem_of_mem_drop hb')
 have hrowS : RowAt w g (off + (n + 4)) (byteV tl) := by
  intro j v hv
  have := hr (n + 4 + j) v (by rw [← hv, htl]; simp only [byteV, List.getElem?_map, List.getElem?_drop]; rw [show l.length - 4 + j = n + 4 + j by omega])
  rw [← Nat.add_assoc] at this
  exact this
 have hrowB : RowAt w g (off + 4) (byteV (openL l)) := by
  intro j v hv
  have := hrow1 (4 + j) v (by rw [← hv, hhd]; simp only [openL, byteV, List.getElem?_map, List.getElem?_drop])
  rw [← Nat.add_assoc] at this
  exact this
 have hol : (openL l).length = n := by simp [openL]; omega
 have HOb : Hid (∀ b ∈ openL l, 0 ≤ b ∧ b < 256) := fun b hb' => hb b (List.mem_of_mem_take (List.mem_of_mem_drop hb'))
 have HE : Hid (openE hd l = if tl = sumB hd' then 0 else 5) := by
  show _ = _
  unfold openE
  rw [if_neg (fun h => h.elim h8 (fun h => h h4)), ← htl, ← hhd]
  by_cases h : tl = sumB hd'
  ·rw [if_neg (by simpa using h), if_pos h]
  ·rw [if_pos h, if_neg h]
 have HS := hide (sum_any w g off cap hd' hrow1 (by omega) hdb)
 have HrowS := hide hrowS
 have HrowB := hide hrowB
 have Htb := hide htb
 have Hhd := hide hhd
 have Htl := hide htl
 clear hr hrow4 hrow1 hrowS hrowB hb hhd hdb hs htb htl hbe h4
 go_enter Tryz.func64, Tryz.ntmps64
 go_wp2_with fail
 have HS2 := HS.out
 rw [hdl] at HS2
 refine HS2.mono ?_
 rintro e w1 ⟨rfl, hb1⟩
 have hz1 := hb1.size
 have HsB : Hid (sumB hd' = [sumF hd' / 16777216 % 256, sumF hd' / 65536 % 256, sumF hd' / 256 % 256, sumF hd' % 256]) := by show _ = _; rfl
 have HsBb := hide (sumB_bytes hd')
 generalize sumF hd' / 16777216 % 256 = z0 at HsB ⊢
 generalize sumF hd' / 65536 % 256 = z1 at HsB ⊢
 generalize sumF hd' / 256 % 256 = z2 at HsB ⊢
 generalize sumF hd' % 256 = z3 at HsB ⊢
 have HB1 := hide hb1
 clear hb1 HS HS2 k1
 go_wp2_with fail
 obtain ⟨W2, hW2⟩ : ∃ W2, W2 = w1.alloc (.cells #[.int .u8 z0, .int .u8 z1, .int .u8 z2, .int .u8 z3] 157) := ⟨_, rfl⟩
 have hb2 : Below w1.heap.size w1 W2 := by rw [hW2]; exact (Below.refl _ _).alloc (Nat.le_refl _) _
 have hz2 : W2.heap.size = w1.heap.size + 1 := by rw [hW2]; simp
 have HBW : Hid (Below w.heap.size w W2) := HB1.out.trans (hb2.mono hz1)
 have HEq : Hid (∀ c1, Calls Tryz.prog 103 #[.slice (some ⟨g, off + (n + 4), none⟩) 4 c1, .slice (some ⟨w1.heap.size, 0, none⟩) 4 4] W2.drew fun e w' => e = .returned (.bool (decide (tl = sumB hd'))) ∧ Below W2.heap.size W2 w') := by
  intro c1
  have h1 : RowAt W2.drew g (off + (n + 4)) (byteV tl) := by
   intro j v hv
   have := HrowS.out j v hv
   exact below_at HBW.out this (lt_of_cell this)
  have h2 : RowAt W2.drew w1.heap.size 0 (byteV (sumB hd')) := by
   rw [HsB.out]
   intro j v hv
   rw [hW2, Nat.zero_add]
   match j, hv with
   | 0, hv => simp [byteV] at hv; subst hv; simp [go_sem]
   | 1, hv => simp [byteV] at hv; subst hv; simp [go_sem]
   | 2, hv => simp [byteV] at hv; subst hv; simp [go_sem]
   | 3, hv => simp [byteV] at hv; subst hv; simp [go_sem]
   | j + 4, hv => simp [byteV] at hv
  have := bEqual_any g (off + (n + 4)) c1 w1.heap.size 0 4 tl (sumB hd') W2.drew h1 h2 Htb.out HsBb.out
  rw [htll] at this
  refine this.mono ?_
  rintro e w' ⟨rfl, hb⟩
  exact ⟨rfl, (Below.refl _ _).drew.trans hb⟩
 rw [← hW2]
 have h84 : n + 8 - (n + 4) = 4 := by omega
 have hc3 : (n : Int) + 4 ≤ (n : Int) + 8 := by omega
 have hcne : ¬ cap = n + 4 := by omega
 have hc00 : (0 : Int) ≤ (n : Int) + 4 := by omega
 have hcN : n + 4 ≤ n + 8 := by omega
 have hcN2 : n + 8 ≤ cap := by omega
 have hcN3 : n + 4 ≤ cap := by omega
 have htn : ((n : Int) + 4).toNat = n + 4 := by omega
 generalize hdec : decide (tl = sumB hd') = dec at HEq
 have Hdec := hide hdec
 clear hW2 hb2 hdec
 go_region_held3 (fun _ => True)
  (exact trivial)
  (first | (go_at_call 103; refine (HEq.out _).mono ?_; rintro e' w3 ⟨rfl, hb3⟩))
 have HB3 : Hid (Below w.heap.size w w3) := HBW.out.trans (hb3.mono (by omega))
 have hz3 := hb3.size
 clear hb3 HEq
 rcases dec with _ | _
 ·have hE : openE hd l = 5 := by rw [HE.out, if_neg (by simpa using Hdec.out)]
  go_wp2_with fail
  go_ret2
  exact ⟨none, by rw [hE]; rfl, HB3.out, fun _ => rfl, fun h => by rw [hE] at h; cases h⟩
 ·have hE : openE hd l = 0 := by rw [HE.out, if_pos (by simpa using Hdec.out)]
  go_wp2_with fail
  go_ret2
  obtain ⟨W4, hW4⟩ : ∃ W4, W4 = w3.alloc (.cells #[.slice (some ⟨g, off + 4, none⟩) n (cap - 4), .bool false] 161) := ⟨_, rfl⟩
  have hb4 : Below w3.heap.size w3 W4 := by rw [hW4]; exact (Below.refl _ _).alloc (Nat.le_refl _) _
  have hz4 : W4.heap.size = w3.heap.size + 1 := by rw [hW4]; simp
  have hBf : Below w.heap.size w W4 := HB3.out.trans (hb4.mono (by omega))
  have q0 : W4.cell? ⟨w3.heap.size, 0, none⟩ = some (.slice (some ⟨g, off + 4, none⟩) n (cap - 4)) := by rw [hW4]; simp [go_sem]
  have q1 : W4.cell? ⟨w3.heap.size, 1, none⟩ = some (.bool false) := by rw [hW4]; simp [go_sem]
  have qr : Room W4 w3.heap.size 2 := by
   rw [hW4]
   intro j hj
   have : j = 0 ∨ j = 1 := by omega
   rcases this with rfl | rfl <;> simp [go_sem]
  rw [← hW4]
  refine ⟨some ⟨w3.heap.size, 0, none⟩, by rw [hE]; rfl, hBf, fun h => absurd hE h, fun _ => ⟨w3.heap.size, rfl, by omega, ⟨⟨off + 4, cap - 4, by rw [hol]; exact q0, by omega, ?_⟩, q1, qr, by omega, HOb.out, by omega, by omega⟩⟩⟩
  intro j v hv
  have := HrowB.out j v hv
  exact below_at hBf this (lt_of_cell this)
theorem strW_app (a b : List Int) : strW a ++ strW b = strW (a ++ b) := by
 refine ByteArray.ext ?_
 simp [strW, ByteArray.data_append]
theorem strW_size (l : List Int) : (strW l).size = l.length := by simp [strW, ByteArray.size]
theorem conv_one (x : Int) (w : World) (hx : 0 ≤ x ∧ x < 256) : (convert 56 9 (.slice (some ⟨w.heap.size, 0, none⟩) 1 1)).run Tryz.prog (w.alloc (.cells #[.int .u8 x] 5)) = .ok (.string (strW [x])) (w.alloc (.cells #[.int .u8 x] 5)) :=
 conv_win (l := [x]) (cap := 1) (row_new w _ [.int .u8 x]) (by simpa using hx)
theorem conv_four (a b c d : Int) (w : World) (h : ∀ x ∈ [a, b, c, d], 0 ≤ x ∧ x < 256) : (convert 56 9 (.slice (some ⟨w.heap.size, 0, none⟩) 4 4)).run Tryz.prog (w.alloc (.cells #[.int .u8 a, .int .u8 b, .int .u8 c, .int .u8 d] 5)) = .ok (.string (strW [a, b, c, d])) (w.alloc (.cells #[.int .u8 a, .int .u8 b, .int .u8 c, .int .u8 d] 5)) :=
 conv_win (l := [a, b, c, d]) (cap := 4) (row_new w _ [.int .u8 a, .int .u8 b, .int .u8 c, .int .u8 d]) h
theorem rnumber_any (n : Int) (w : World) (hn : 0 ≤ n ∧ n ≤ 9223372036854775807) :
  Calls Tryz.prog 78 #[.int .i64 n] w fun e w' => e = .returned (.string (strW (numB n))) ∧ Below w.heap.size w w' := by
 go_enter Tryz.func78, Tryz.ntmps78
 go_wp2
 go_loopg [0, 3] 11 (fun g s0 s3 wr => ∃ (k : Nat) (m : Int) (acc : List Int), s0 = .int .i64 m ∧ s3 = .string (strW acc) ∧ k + 2 ≤ g ∧ 0 ≤ m ∧ m ≤ 9223372036854775807 ∧ acc.length + k ≤ 9 ∧ Hid (m < 128 ^ (k + 1) ∧ acc ++ numF k m = numB n ∧ Below w.heap.size w wr))
 case atStart => exact ⟨9, n, [], rfl, rfl, by omega, by omega, by omega, by simp, by have := hn.2; omega, rfl, Below.refl _ _⟩
 case round =>
  obtain ⟨k, m, acc, rfl, rfl, hg, hm0, hm1, hal, hI⟩ := hrel
  have z1 : (strW acc).size ≤ 9 := by rw [strW_size]; omega
  by_cases hlt : 128 ≤ m
  ·have d1 : decide (128 ≤ m) = true := by simpa using hlt
   have e1 : Int.tmod m 128 = m % 128 := Int.tmod_eq_emod_of_nonneg hm0
   have e2 : Int.tdiv m 128 = m / 128 := Int.tdiv_eq_ediv_of_nonneg hm0
   have b1 : IntKind.i64.wrap (m % 128 + 128) = m % 128 + 128 := by rw [IntKind.wrap_i64]; omega
   have b2 : IntKind.u8.wrap (m % 128 + 128) = m % 128 + 128 := byteOf _ (by omega) (by omega)
   have hcv := conv_one (m % 128 + 128) wr (by omega)
   have z2 : (strW [m % 128 + 128]).size ≤ 1 := by rw [strW_size]; simp
   obtain ⟨k', rfl⟩ : ∃ k', k = k' + 1 := by
    rcases k with _ | k'
    ·have := hI.out.1; simp at this; omega
    ·exact ⟨k', rfl⟩
   have HN : Hid (m / 128 < 128 ^ (k' + 1) ∧ acc ++ [m % 128 + 128] ++ numF k' (m / 128) = numB n ∧ Below w.heap.size w (wr.alloc (.cells #[.int .u8 (m % 128 + 128)] 5))) := by
    refine ⟨?_, ?_, hI.out.2.2.alloc hI.out.2.2.size _⟩
    ·have h1 := hI.out.1
     rw [Int.pow_succ] at h1
     omega
    ·rw [← hI.out.2.1, numF, if_pos (by omega)]
     simp
   clear hI
   go_wp2
   rw [strW_app]
   go_roundg (k' + 2)
   case measure => omega
   case rel => exact ⟨k', m / 128, _, rfl, rfl, Nat.le_refl _, by omega, by omega, by simp; omega, HN.out⟩
  ·have d1 : decide (128 ≤ m) = false := by simpa using hlt
   have b2 : IntKind.u8.wrap m = m := byteOf _ (by omega) (by omega)
   have hcv := conv_one m wr (by omega)
   have z2 : (strW [m]).size ≤ 1 := by rw [strW_size]; simp
   have HN : Hid (numB n = acc ++ [m]) := by
    show _ = _
    rw [← hI.out.2.1]
    rcases k with _ | k
    ·rfl
    ·rw [numF, if_neg (by omega)]
   have HB : Hid (Below w.heap.size w (wr.alloc (.cells #[.int .u8 m] 5))) := hI.out.2.2.alloc hI.out.2.2.size _
   clear hI
   go_wp2
   go_ret
   refine ⟨?_, HB.out⟩
   rw [HN.out, strW_app]
   rfl
theorem rsigned_any (n : Int) (w : World) (hn : -1000000000 ≤ n ∧ n ≤ 1000000000) :
  Calls Tryz.prog 80 #[.int .i64 n] w fun e w' => e = .returned (.string (strW (sgnB n))) ∧ Below w.heap.size w w' := by
 by_cases h : 0 ≤ n
 ·have e : sgnB n = numB (2 * n) := by rw [sgnB, sgnI, if_neg (by omega)]
  rw [e]
  clear e
  go_enter Tryz.func80, Tryz.ntmps80
  go_wp2_with (go_at_call 78; refine (rnumber_any (2 * n) _ (by omega)).mono ?_; rintro e w1 ⟨rfl, hb⟩)
  go_ret
  exact ⟨rfl, hb⟩
 ·have e : sgnB n = numB (-2 * n - 1) := by rw [sgnB, sgnI, if_pos (by omega)]
  rw [e]
  clear e
  go_enter Tryz.func80, Tryz.ntmps80
  go_wp2_with (go_at_call 78; refine (rnumber_any (-2 * n - 1) _ (by omega)).mono ?_; rintro e w1 ⟨rfl, hb⟩)
  go_ret
  exact ⟨rfl, hb⟩
theorem rSum_any (l : List Int) (w : World) (hl : l.length ≤ 1000000000) (hv : ∀ c ∈ l, 0 ≤ c ∧ c < 256) :
  Calls Tryz.prog 81 #[.string (strW l)] w fun e w' => e = .returned (.string (strW (sumB l))) ∧ Below w.heap.size w w' := by
 have Hv := hide hv
 clear hv
 have hz : (strW l).size = l.length := strW_size l
 go_enter Tryz.func81, Tryz.ntmps81
 go_wp2
 go_loopg [3, 4] (l.length + 3) (fun g s3 s4 wr => ∃ (i : Nat) (h : Int), s3 = .int .i64 h ∧ s4 = .int .i64 i ∧ l.length - i + 2 ≤ g ∧ i ≤ l.length ∧ 0 ≤ h ∧ h < 4294967296 ∧ wr = w ∧ Hid (h = sumF (l.take i)))
 case atStart => exact ⟨0, 5381, rfl, rfl, by omega, by omega, by omega, by omega, rfl, rfl⟩
 case round =>
  obtain ⟨i, h, rfl, rfl, hg, hi, h0, h1, rfl, hI⟩ := hrel
  by_cases hlt : i < l.length
  ·have d1 : decide ((i : Int) < (l.length : Int)) = true := by simp; omega
   have hii : (i : Int) < (l.length : Int) := by omega
   have hgt : (i : Nat) < (strW l).size := by omega
   have HX : Hid (((strW l)[i].toNat : Int) = l[i]) := by
    have hb := Hv.out l[i] (List.getElem_mem hlt)
    have e1 : (strW l)[i] = UInt8.ofNat l[i].toNat := by simp [strW, ByteArray.getElem_eq_getElem_data]
    have h8 : (UInt8.ofNat l[i].toNat).toNat = l[i].toNat % 256 := UInt8.toNat_ofNat'
    show _ = _
    rw [e1, h8]
    omega
   have HS : Hid (sumF (l.take (i + 1)) = sumS h l[i]) := by
    show _ = _
    rw [List.take_succ_eq_append_getElem hlt, sumF, List.foldl_append, hI.out]
    rfl
   have Hb := hide (Hv.out l[i] (List.getElem_mem hlt))
   go_wp2
   go_roundg (l.length - (i + 1) + 2)
   case measure => omega
   case rel =>
    have e := HX.out
    have hb := Hb.out
    have hs := sumS_lt h l[i]
    generalize l[i] = c at e hb HS hs
    refine ⟨i + 1, sumS h c, ?_, by go_num, Nat.le_refl _, by omega, hs.1, hs.2, rfl, HS.out.symm⟩
    rw [e]
    simp only [wrap64, IntKind.wrap_i64]
    congr 1
    have w1 : IntKind.i64.wrap c = c := by rw [IntKind.wrap_i64]; omega
    rw [show (c + 9223372036854775808) % 18446744073709551616 - 9223372036854775808 = c by omega, show (h * 33 + c + 9223372036854775808) % 18446744073709551616 - 9223372036854775808 = h * 33 + c by omega, Int.tmod_eq_emod_of_nonneg (by omega)]
    unfold sumS
    omega
  ·have d1 : decide ((i : Int) < (l.length : Int)) = false := by simp; omega
   have e1 : Int.tdiv h 16777216 = h / 16777216 := Int.tdiv_eq_ediv_of_nonneg h0
   have e2 : Int.tdiv h 65536 = h / 65536 := Int.tdiv_eq_ediv_of_nonneg h0
   have e3 : Int.tdiv h 256 = h / 256 := Int.tdiv_eq_ediv_of_nonneg h0
   have e4 : Int.tmod h 256 = h % 256 := Int.tmod_eq_emod_of_nonneg h0
   have e5 : Int.tmod (h / 65536) 256 = h / 65536 % 256 := Int.tmod_eq_emod_of_nonneg (by omega)
   have e6 : Int.tmod (h / 256) 256 = h / 256 % 256 := Int.tmod_eq_emod_of_nonneg (by omega)
   have b1 : IntKind.u8.wrap (h / 16777216) = h / 16777216 := byteOf _ (by omega) (by omega)
   have b2 : IntKind.u8.wrap (h / 65536 % 256) = h / 65536 % 256 := byteOf _ (by omega) (by omega)
   have b3 : IntKind.u8.wrap (h / 256 % 256) = h / 256 % 256 := byteOf _ (by omega) (by omega)
   have b4 : IntKind.u8.wrap (h % 256) = h % 256 := byteOf _ (by omega) (by omega)
   have hcv := conv_four (h / 16777216) (h / 65536 % 256) (h / 256 % 256) (h % 256) wr (by intro x hx; simp at hx; omega)
   have HE : Hid (sumB l = [h / 16777216, h / 65536 % 256, h / 256 % 256, h % 256]) := by
    show _ = _
    have hh := hI.out
    rw [List.take_of_length_le (by omega)] at hh
    rw [sumB, ← hh]
    congr 1
   have HB := hide (alloc_below wr (.cells #[.int .u8 (h / 16777216), .int .u8 (h / 65536 % 256), .int .u8 (h / 256 % 256), .int .u8 (h % 256)] 5))
   clear hI
   go_wp2
   go_ret
   exact ⟨by rw [HE.out]; rfl, HB.out⟩
end Go.Proofs.YtndlmgocldckfaaGreat
