import Derived.Test.YtndlmgocldckfaaSaw
namespace Go.Proofs.Ytndlmgocldckfaa
open Go.RowKit
set_option linter.unusedVariables false
set_option linter.unusedSimpArgs false

theorem numB_bytes {n : Int} (h : 0 ≤ n ∧ n ≤ 9223372036854775807) : ∀ b ∈ numB n, 0 ≤ b ∧ b < 256 := numF_bytes 9 n h.1 (by simp; omega)
theorem sgnB_bytes {n : Int} (h : -1000000000 ≤ n ∧ n ≤ 1000000000) : ∀ b ∈ sgnB n, 0 ≤ b ∧ b < 256 := by
  unfold sgnB
  refine numB_bytes ?_
  unfold sgnI
  split <;> omega
theorem evB_bytes : ∀ (q : List Ev) (t : Int), Sorted q → 0 ≤ t → (∀ e ∈ q, t ≤ e.time ∧ e.time ≤ 1000000000000 ∧ 0 ≤ e.number ∧ e.number ≤ 1000000000 ∧ 0 ≤ e.kind ∧ e.kind ≤ 1000 ∧ 0 ≤ e.entity ∧ e.entity ≤ 1000) → ∀ b ∈ evB t q, 0 ≤ b ∧ b < 256
  | [], t, _, _, _, b, hb => by simp [evB] at hb
  | e :: q, t, hs, ht, h, b, hb => by
    have he := h e (List.mem_cons_self ..)
    simp only [evB, List.mem_append] at hb
    rcases hb with hb | hb | hb | hb | hb
    · exact numB_bytes (by omega) b hb
    · exact numB_bytes (by omega) b hb
    · exact numB_bytes (by omega) b hb
    · exact numB_bytes (by omega) b hb
    · refine evB_bytes q e.time (List.pairwise_cons.1 hs).2 (by omega) (fun x hx => ?_) b hb
      have h1 := h x (List.mem_cons_of_mem _ hx)
      have h2 := (List.pairwise_cons.1 hs).1 x hx
      simp only [aheadF, Bool.or_eq_true, decide_eq_true_eq, Bool.and_eq_true] at h2
      omega
theorem bodyF_bytes {ents : Int} {nk : Nat} {draws : List Int} {s : KS} (hok : KOk ents nk draws s) (he : 1 ≤ ents ∧ ents ≤ 8) (hk : nk ≤ 8) (hd : draws.length ≤ 1000) (hs : Sorted s.q) : ∀ b ∈ bodyF ents nk s, 0 ≤ b ∧ b < 256 := by
  obtain ⟨k1, k2, k3, k4, k5, k6⟩ := hok
  intro b hb
  simp only [bodyF, List.mem_append] at hb
  rcases hb with hb | hb | hb | hb | hb | hb | hb | hb
  · exact numB_bytes (by omega) b hb
  · exact numB_bytes (by omega) b hb
  · exact numB_bytes (by omega) b hb
  · exact numB_bytes (by omega) b hb
  · exact numB_bytes (by omega) b hb
  · obtain ⟨j, _, hj⟩ := List.mem_flatMap.1 hb
    exact sgnB_bytes (k4 j) b hj
  · exact numB_bytes (by omega) b hb
  · refine evB_bytes s.q s.clock hs k2.1 (fun e he' => ?_) b hb
    have := k5 e he'
    omega
theorem bodyF_len {ents : Int} {nk : Nat} {s : KS} (he : ents ≤ 8) (hq : s.q.length ≤ 16) : (bodyF ents nk s).length ≤ 1100 := by
  have h1 := numB_len ents
  have h2 := numB_len (nk : Int)
  have h3 := numB_len s.clock
  have h4 := numB_len s.next
  have h5 := numB_len (s.taken : Int)
  have h6 := regB_len s (ents.toNat * 4)
  have h7 := numB_len (s.q.length : Int)
  have h8 := evB_len s.clock s.q
  simp only [bodyF, List.length_append]
  omega

/-- What is ahead of the sum; and all that Save answers. -/
def headF (ents : Int) (nk : Nat) (s : KS) : List Int := [84, 77, 80, 1] ++ bodyF ents nk s
def saveF (ents : Int) (nk : Nat) (s : KS) : List Int := headF ents nk s ++ sumB (headF ents nk s)

set_option maxRecDepth 100000 in
set_option maxHeartbeats 4000000 in
theorem save_any {R : Nat → Prop} {base : Nat} (kb qb mb : Nat) (ov : Value) (ents : Int) (ks : List (List Ins)) (draws : List Int) (s : KS) (w : World) (h : KerP R base w kb qb mb ov ents ks draws s) (hok : KOk ents ks.length draws s) (hk8 : ks.length ≤ 8) (he : 1 ≤ ents ∧ ents ≤ 8) (hd : draws.length ≤ 1000) (hsrt : Sorted s.q) :
    Calls Try.prog 15 #[.pointer (some ⟨kb, 0, none⟩)] w fun e w' => ∃ v, e = .returned v ∧ Below w.heap.size w w' ∧ BRow w.heap.size w' v (saveF ents ks.length s) := by
  have H := hide h
  have hby := hide (bodyF_bytes hok he hk8 hd hsrt)
  have hbl := bodyF_len (ents := ents) (nk := ks.length) (s := s) he.2 hok.len
  clear h
  go_enter Try.func15, Try.ntmps15
  go_wp2_with fail
  refine (begin_any w _ ?_).mono ?_
  · decide
  rintro e w1 ⟨wb, lv1, rfl, hb1, hwl, hW1, hlv⟩
  have HS1 : Hid (SvR w w1 wb lv1 [84, 77, 80, 1]) := ⟨hb1, hW1, hwl⟩
  clear hb1 hW1 hwl hlv
  go_wp2_with fail
  refine (write_any kb qb mb ov ents ks draws s w w1 wb lv1 _ H.out hok hk8 he hd hsrt HS1.out (by simp)).mono ?_
  rintro e w2 ⟨rfl, lv2, hS2⟩
  have HS2 := hide hS2
  clear hS2
  go_wp2_with fail
  refine (end_any w.heap.size wb lv2 (headF ents ks.length s) w2 HS2.out.wr HS2.out.below.size (by simp [headF]; omega) ?_).mono ?_
  · intro c hc
    rcases List.mem_append.1 hc with hc | hc
    · simp at hc; omega
    · exact hby.out c hc
  rintro e w3 ⟨v, rfl, ho3, hrow3⟩
  obtain ⟨g, cap, rfl⟩ := hrow3.form
  have HB3 : Hid (Below w.heap.size w w3) := HS2.out.below.trans (ho3.below HS2.out.below.size (fun k hk hc => by have := (HS2.out.wr.row.lt k hc).1; omega))
  have Hrow3 := hide hrow3
  clear hrow3 ho3
  go_wp2_with fail
  go_ret
  exact ⟨_, rfl, HB3.out, by have := Hrow3.out; simp only [List.length_append] at this; exact this⟩
end Go.Proofs.Ytndlmgocldckfaa
