import Derived.Test.YtndlmgocldckfaaKpB
namespace Go.Proofs.Ytndlmgocldckfaa
open Go.RowKit
set_option linter.unusedVariables false
set_option linter.unusedSimpArgs false

/-- The instruction that the raw numbers speak of, and how many are used then. -/
def instrF (L : List Int) (kinds ents : Int) (I : Nat) : Ins × Nat :=
  let a := nextF L I 4
  let k := nextF L a.2 9
  if k.1 = 0 then let b := nextF L k.2 31; (⟨1, a.1, b.1 - 10, 0⟩, b.2)
  else if k.1 = 1 then let b := nextF L k.2 4; (⟨2, a.1, b.1, 0⟩, b.2)
  else if k.1 = 2 then let b := nextF L k.2 4; (⟨3, a.1, b.1, 0⟩, b.2)
  else if k.1 = 3 then let b := nextF L k.2 12; (⟨4, a.1, 1 + b.1, 0⟩, b.2)
  else if k.1 = 4 then let b := nextF L k.2 3; (⟨5, a.1, 1 + b.1, 0⟩, b.2)
  else if k.1 = 5 then (⟨7, a.1, 0, 0⟩, k.2)
  else if k.1 = 6 then (⟨8, a.1, 0, 0⟩, k.2)
  else let x := nextF L k.2 kinds; let y := nextF L x.2 ents; (⟨6, x.1, y.1, a.1⟩, y.2)

theorem instrF_may (L : List Int) {kinds : Nat} {ents : Int} (I : Nat) (hk : 1 ≤ kinds) (he : 1 ≤ ents) : mayF ents kinds (instrF L kinds ents I).1.op (instrF L kinds ents I).1.a (instrF L kinds ents I).1.b (instrF L kinds ents I).1.c = true := by
  have ha := nextF_lt L I (n := 4) (by omega)
  unfold instrF
  simp only
  generalize nextF L I 4 = a at ha
  generalize nextF L a.2 9 = k
  have b31 := nextF_lt L k.2 (n := 31) (by omega)
  have b4 := nextF_lt L k.2 (n := 4) (by omega)
  have b12 := nextF_lt L k.2 (n := 12) (by omega)
  have b3 := nextF_lt L k.2 (n := 3) (by omega)
  have bk := nextF_lt L k.2 (n := (kinds : Int)) (by omega)
  have be := nextF_lt L (nextF L k.2 (kinds : Int)).2 (n := ents) (by omega)
  repeat' split
  all_goals
    simp [mayF, inB]
    omega

theorem results_one {fn : Func} {p : Tmp} {ty : TypeId} (h : fn.results = #[.cell p ty]) (tmps : Array Value) (P : Program) (w : World) :
    (results fn tmps).run P w = ((asAddr (tmps.getD p undef)).run P w).andThen fun a w₁ => (loadVar ty a).run P w₁ := by
  simp only [results, h]
  simp [Sem.run_bind, Result.andThen]

/-- The answer is laid into a block that is new. -/
theorem instr_lay {w w3 : World} {rb : Nat} {sa : Option Addr} {sc : Nat} {L : List Int} {J : Nat} {n : Nat} (x : Ins) (hO : Only (· = rb) w w3) (hP : RawP w3 rb sa sc L J) (hne : ¬ w.heap.size = rb) (hr : Room w3 w.heap.size 4) (hfar : ∀ b off, sa = some ⟨b, off, none⟩ → L ≠ [] → b < w.heap.size) :
    Only (· = rb) w (set4 w3 w.heap.size 0 x) ∧ RawP (set4 w3 w.heap.size 0 x) rb sa sc L J := by
  refine ⟨?_, ?_⟩
  · have := (hO.mono (S' := fun b => b = rb ∨ b = w.heap.size) (fun k _ hk => .inl hk)).set4 (b := w.heap.size) (.inr rfl) 0 x
    exact this.mono (fun k hk h => h.resolve_right (by omega))
  · have h1 : Only (· = w.heap.size) w3 (set4 w3 w.heap.size 0 x) := (Only.refl (· = w.heap.size) w3).set4 (b := w.heap.size) (show w.heap.size = w.heap.size from rfl) 0 x
    exact hP.only h1 (fun hc => hne hc.symm) (fun b off hs hl hc => by have := hfar b off hs hl; omega)

set_option maxRecDepth 100000 in
set_option maxHeartbeats 4000000 in
theorem instr_0 (rb : Nat) (sa : Option Addr) (sc : Nat) (L : List Int) (I : Nat) (kinds ents : Int) (w : World) (h : RawP w rb sa sc L I) (a1 : Int) (b1 b2 : Nat) (ha : nextF L I 4 = (a1, b1)) (hk : nextF L b1 9 = (0, b2)) :
    Calls Try.prog 29 #[.pointer (some ⟨rb, 0, none⟩), .int .i64 kinds, .int .i64 ents] w fun e w' => e = .returned (.agg #[.int .i64 1, .int .i64 a1, .int .i64 ((nextF L b2 31).1 - 10), .int .i64 0]) ∧ Only (· = rb) w w' ∧ RawP w' rb sa sc L (nextF L b2 31).2 := by
  have hb := nextF_lt L b2 (n := 31) (by omega)
  have hw : IntKind.i64.wrap ((nextF L b2 31).1 - 10) = (nextF L b2 31).1 - 10 := by rw [IntKind.wrap_i64]; omega
  go_enter Try.func29, Try.ntmps29
  have hrb := lt_of_cell h.c0
  have Hfar : Hid (∀ b off, sa = some ⟨b, off, none⟩ → L ≠ [] → b < w.heap.size) := by
    intro b off hs hl
    obtain ⟨b', off', h1, _, h3⟩ := h.row 0 (List.length_pos_iff.2 hl)
    rw [hs] at h1
    simp only [Option.some.injEq, Addr.mk.injEq] at h1
    obtain ⟨rfl, _⟩ := h1
    exact lt_of_cell h3
  have hne : ¬ w.heap.size = rb := by omega
  go_wp2_with fail
  obtain ⟨W0, hW0⟩ : ∃ W0, W0 = w.alloc (.cells #[.int .i64 0, .int .i64 0, .int .i64 0, .int .i64 0] 82) := ⟨_, rfl⟩
  have hb0 : Below w.heap.size w W0 := by rw [hW0]; exact (Below.refl _ _).alloc (Nat.le_refl _) _
  have hroom : Room W0 w.heap.size 4 := by
    rw [hW0]
    intro j hj
    have : j = 0 ∨ j = 1 ∨ j = 2 ∨ j = 3 := by omega
    rcases this with rfl | rfl | rfl | rfl <;> simp [go_sem]
  have h0 : RawP W0 rb sa sc L I := h.only (Only.new (S := fun _ => False) hb0) (by simp) (by simp)
  rw [← hW0]
  clear hW0
  refine (next_any rb sa sc L I 4 _ h0 (by omega)).mono ?_
  rintro e w1 ⟨rfl, ho1, h1⟩
  rw [ha] at h1 ⊢
  have hroom1 := hroom.only ho1 hne
  go_wp2_with fail
  refine (next_any rb sa sc L b1 9 _ h1 (by omega)).mono ?_
  rintro e w2 ⟨rfl, ho2, h2⟩
  rw [hk] at h2 ⊢
  have hroom2 := hroom1.only ho2 hne
  go_wp2_with fail
  refine (next_any rb sa sc L b2 31 _ h2 (by omega)).mono ?_
  rintro e w3 ⟨rfl, ho3, h3⟩
  have hroom3 := hroom2.only ho3 hne
  obtain ⟨s0, y0⟩ := hroom3 0 (by omega)
  obtain ⟨s1, y1⟩ := hroom3 1 (by omega)
  obtain ⟨s2, y2⟩ := hroom3 2 (by omega)
  obtain ⟨s3, y3⟩ := hroom3 3 (by omega)
  obtain ⟨z0, x0⟩ := Option.isSome_iff_exists.1 s0
  obtain ⟨z1, x1⟩ := Option.isSome_iff_exists.1 s1
  obtain ⟨z2, x2⟩ := Option.isSome_iff_exists.1 s2
  obtain ⟨z3, x3⟩ := Option.isSome_iff_exists.1 s3
  have Hroom3 := hide hroom3
  have H3 := hide h3
  have HO := hide (((Only.new (S := (· = rb)) hb0).trans ho1).trans (ho2.trans ho3))
  clear h h0 h1 h2 h3 ho1 ho2 ho3 hroom hroom1 hroom2 hroom3 s0 s1 s2 s3 hb0
  generalize hp : nextF L b2 31 = p at hb hw H3 ⊢
  go_wp2_with fail
  obtain ⟨hOz, hPz⟩ := instr_lay (n := 0) ⟨1, a1, p.1 - 10, 0⟩ HO.out H3.out hne Hroom3.out Hfar.out
  obtain ⟨t0, t1, t2, t3⟩ := set4_same w3 w.heap.size 0 4 ⟨1, a1, p.1 - 10, 0⟩ Hroom3.out (by omega)
  obtain ⟨WZ, hWZ⟩ : ∃ WZ, WZ = set4 w3 w.heap.size 0 ⟨1, a1, p.1 - 10, 0⟩ := ⟨_, rfl⟩
  have hWZ' := hWZ
  simp only [set4, Nat.zero_add] at hWZ'
  rw [← hWZ] at t0 t1 t2 t3 hOz hPz
  rw [← hWZ']
  simp only [Nat.zero_add] at t1 t2 t3
  clear hWZ hWZ' x0 x1 x2 x3 y0 y1 y2 y3
  refine bodyPost_ret (v := .agg #[.int .i64 (1), .int .i64 (a1), .int .i64 (p.1 - 10), .int .i64 (0)]) ?_ rfl ?_
  · rw [results_one rfl]; simp [go_sem, t0, t1, t2, t3]
  rw [hp]
  exact ⟨rfl, hOz, hPz⟩

set_option maxRecDepth 100000 in
set_option maxHeartbeats 4000000 in
theorem instr_1 (rb : Nat) (sa : Option Addr) (sc : Nat) (L : List Int) (I : Nat) (kinds ents : Int) (w : World) (h : RawP w rb sa sc L I) (a1 : Int) (b1 b2 : Nat) (ha : nextF L I 4 = (a1, b1)) (hk : nextF L b1 9 = (1, b2)) :
    Calls Try.prog 29 #[.pointer (some ⟨rb, 0, none⟩), .int .i64 kinds, .int .i64 ents] w fun e w' => e = .returned (.agg #[.int .i64 2, .int .i64 a1, .int .i64 ((nextF L b2 4).1), .int .i64 0]) ∧ Only (· = rb) w w' ∧ RawP w' rb sa sc L (nextF L b2 4).2 := by
  have hb := nextF_lt L b2 (n := 4) (by omega)
  have hw : IntKind.i64.wrap ((nextF L b2 4).1) = (nextF L b2 4).1 := by rw [IntKind.wrap_i64]; omega
  go_enter Try.func29, Try.ntmps29
  have hrb := lt_of_cell h.c0
  have Hfar : Hid (∀ b off, sa = some ⟨b, off, none⟩ → L ≠ [] → b < w.heap.size) := by
    intro b off hs hl
    obtain ⟨b', off', h1, _, h3⟩ := h.row 0 (List.length_pos_iff.2 hl)
    rw [hs] at h1
    simp only [Option.some.injEq, Addr.mk.injEq] at h1
    obtain ⟨rfl, _⟩ := h1
    exact lt_of_cell h3
  have hne : ¬ w.heap.size = rb := by omega
  go_wp2_with fail
  obtain ⟨W0, hW0⟩ : ∃ W0, W0 = w.alloc (.cells #[.int .i64 0, .int .i64 0, .int .i64 0, .int .i64 0] 82) := ⟨_, rfl⟩
  have hb0 : Below w.heap.size w W0 := by rw [hW0]; exact (Below.refl _ _).alloc (Nat.le_refl _) _
  have hroom : Room W0 w.heap.size 4 := by
    rw [hW0]
    intro j hj
    have : j = 0 ∨ j = 1 ∨ j = 2 ∨ j = 3 := by omega
    rcases this with rfl | rfl | rfl | rfl <;> simp [go_sem]
  have h0 : RawP W0 rb sa sc L I := h.only (Only.new (S := fun _ => False) hb0) (by simp) (by simp)
  rw [← hW0]
  clear hW0
  refine (next_any rb sa sc L I 4 _ h0 (by omega)).mono ?_
  rintro e w1 ⟨rfl, ho1, h1⟩
  rw [ha] at h1 ⊢
  have hroom1 := hroom.only ho1 hne
  go_wp2_with fail
  refine (next_any rb sa sc L b1 9 _ h1 (by omega)).mono ?_
  rintro e w2 ⟨rfl, ho2, h2⟩
  rw [hk] at h2 ⊢
  have hroom2 := hroom1.only ho2 hne
  go_wp2_with fail
  refine (next_any rb sa sc L b2 4 _ h2 (by omega)).mono ?_
  rintro e w3 ⟨rfl, ho3, h3⟩
  have hroom3 := hroom2.only ho3 hne
  obtain ⟨s0, y0⟩ := hroom3 0 (by omega)
  obtain ⟨s1, y1⟩ := hroom3 1 (by omega)
  obtain ⟨s2, y2⟩ := hroom3 2 (by omega)
  obtain ⟨s3, y3⟩ := hroom3 3 (by omega)
  obtain ⟨z0, x0⟩ := Option.isSome_iff_exists.1 s0
  obtain ⟨z1, x1⟩ := Option.isSome_iff_exists.1 s1
  obtain ⟨z2, x2⟩ := Option.isSome_iff_exists.1 s2
  obtain ⟨z3, x3⟩ := Option.isSome_iff_exists.1 s3
  have Hroom3 := hide hroom3
  have H3 := hide h3
  have HO := hide (((Only.new (S := (· = rb)) hb0).trans ho1).trans (ho2.trans ho3))
  clear h h0 h1 h2 h3 ho1 ho2 ho3 hroom hroom1 hroom2 hroom3 s0 s1 s2 s3 hb0
  generalize hp : nextF L b2 4 = p at hb hw H3 ⊢
  go_wp2_with fail
  obtain ⟨hOz, hPz⟩ := instr_lay (n := 0) ⟨2, a1, p.1, 0⟩ HO.out H3.out hne Hroom3.out Hfar.out
  obtain ⟨t0, t1, t2, t3⟩ := set4_same w3 w.heap.size 0 4 ⟨2, a1, p.1, 0⟩ Hroom3.out (by omega)
  obtain ⟨WZ, hWZ⟩ : ∃ WZ, WZ = set4 w3 w.heap.size 0 ⟨2, a1, p.1, 0⟩ := ⟨_, rfl⟩
  have hWZ' := hWZ
  simp only [set4, Nat.zero_add] at hWZ'
  rw [← hWZ] at t0 t1 t2 t3 hOz hPz
  rw [← hWZ']
  simp only [Nat.zero_add] at t1 t2 t3
  clear hWZ hWZ' x0 x1 x2 x3 y0 y1 y2 y3
  refine bodyPost_ret (v := .agg #[.int .i64 (2), .int .i64 (a1), .int .i64 (p.1), .int .i64 (0)]) ?_ rfl ?_
  · rw [results_one rfl]; simp [go_sem, t0, t1, t2, t3]
  rw [hp]
  exact ⟨rfl, hOz, hPz⟩

set_option maxRecDepth 100000 in
set_option maxHeartbeats 4000000 in
theorem instr_2 (rb : Nat) (sa : Option Addr) (sc : Nat) (L : List Int) (I : Nat) (kinds ents : Int) (w : World) (h : RawP w rb sa sc L I) (a1 : Int) (b1 b2 : Nat) (ha : nextF L I 4 = (a1, b1)) (hk : nextF L b1 9 = (2, b2)) :
    Calls Try.prog 29 #[.pointer (some ⟨rb, 0, none⟩), .int .i64 kinds, .int .i64 ents] w fun e w' => e = .returned (.agg #[.int .i64 3, .int .i64 a1, .int .i64 ((nextF L b2 4).1), .int .i64 0]) ∧ Only (· = rb) w w' ∧ RawP w' rb sa sc L (nextF L b2 4).2 := by
  have hb := nextF_lt L b2 (n := 4) (by omega)
  have hw : IntKind.i64.wrap ((nextF L b2 4).1) = (nextF L b2 4).1 := by rw [IntKind.wrap_i64]; omega
  go_enter Try.func29, Try.ntmps29
  have hrb := lt_of_cell h.c0
  have Hfar : Hid (∀ b off, sa = some ⟨b, off, none⟩ → L ≠ [] → b < w.heap.size) := by
    intro b off hs hl
    obtain ⟨b', off', h1, _, h3⟩ := h.row 0 (List.length_pos_iff.2 hl)
    rw [hs] at h1
    simp only [Option.some.injEq, Addr.mk.injEq] at h1
    obtain ⟨rfl, _⟩ := h1
    exact lt_of_cell h3
  have hne : ¬ w.heap.size = rb := by omega
  go_wp2_with fail
  obtain ⟨W0, hW0⟩ : ∃ W0, W0 = w.alloc (.cells #[.int .i64 0, .int .i64 0, .int .i64 0, .int .i64 0] 82) := ⟨_, rfl⟩
  have hb0 : Below w.heap.size w W0 := by rw [hW0]; exact (Below.refl _ _).alloc (Nat.le_refl _) _
  have hroom : Room W0 w.heap.size 4 := by
    rw [hW0]
    intro j hj
    have : j = 0 ∨ j = 1 ∨ j = 2 ∨ j = 3 := by omega
    rcases this with rfl | rfl | rfl | rfl <;> simp [go_sem]
  have h0 : RawP W0 rb sa sc L I := h.only (Only.new (S := fun _ => False) hb0) (by simp) (by simp)
  rw [← hW0]
  clear hW0
  refine (next_any rb sa sc L I 4 _ h0 (by omega)).mono ?_
  rintro e w1 ⟨rfl, ho1, h1⟩
  rw [ha] at h1 ⊢
  have hroom1 := hroom.only ho1 hne
  go_wp2_with fail
  refine (next_any rb sa sc L b1 9 _ h1 (by omega)).mono ?_
  rintro e w2 ⟨rfl, ho2, h2⟩
  rw [hk] at h2 ⊢
  have hroom2 := hroom1.only ho2 hne
  go_wp2_with fail
  refine (next_any rb sa sc L b2 4 _ h2 (by omega)).mono ?_
  rintro e w3 ⟨rfl, ho3, h3⟩
  have hroom3 := hroom2.only ho3 hne
  obtain ⟨s0, y0⟩ := hroom3 0 (by omega)
  obtain ⟨s1, y1⟩ := hroom3 1 (by omega)
  obtain ⟨s2, y2⟩ := hroom3 2 (by omega)
  obtain ⟨s3, y3⟩ := hroom3 3 (by omega)
  obtain ⟨z0, x0⟩ := Option.isSome_iff_exists.1 s0
  obtain ⟨z1, x1⟩ := Option.isSome_iff_exists.1 s1
  obtain ⟨z2, x2⟩ := Option.isSome_iff_exists.1 s2
  obtain ⟨z3, x3⟩ := Option.isSome_iff_exists.1 s3
  have Hroom3 := hide hroom3
  have H3 := hide h3
  have HO := hide (((Only.new (S := (· = rb)) hb0).trans ho1).trans (ho2.trans ho3))
  clear h h0 h1 h2 h3 ho1 ho2 ho3 hroom hroom1 hroom2 hroom3 s0 s1 s2 s3 hb0
  generalize hp : nextF L b2 4 = p at hb hw H3 ⊢
  go_wp2_with fail
  obtain ⟨hOz, hPz⟩ := instr_lay (n := 0) ⟨3, a1, p.1, 0⟩ HO.out H3.out hne Hroom3.out Hfar.out
  obtain ⟨t0, t1, t2, t3⟩ := set4_same w3 w.heap.size 0 4 ⟨3, a1, p.1, 0⟩ Hroom3.out (by omega)
  obtain ⟨WZ, hWZ⟩ : ∃ WZ, WZ = set4 w3 w.heap.size 0 ⟨3, a1, p.1, 0⟩ := ⟨_, rfl⟩
  have hWZ' := hWZ
  simp only [set4, Nat.zero_add] at hWZ'
  rw [← hWZ] at t0 t1 t2 t3 hOz hPz
  rw [← hWZ']
  simp only [Nat.zero_add] at t1 t2 t3
  clear hWZ hWZ' x0 x1 x2 x3 y0 y1 y2 y3
  refine bodyPost_ret (v := .agg #[.int .i64 (3), .int .i64 (a1), .int .i64 (p.1), .int .i64 (0)]) ?_ rfl ?_
  · rw [results_one rfl]; simp [go_sem, t0, t1, t2, t3]
  rw [hp]
  exact ⟨rfl, hOz, hPz⟩

set_option maxRecDepth 100000 in
set_option maxHeartbeats 4000000 in
theorem instr_3 (rb : Nat) (sa : Option Addr) (sc : Nat) (L : List Int) (I : Nat) (kinds ents : Int) (w : World) (h : RawP w rb sa sc L I) (a1 : Int) (b1 b2 : Nat) (ha : nextF L I 4 = (a1, b1)) (hk : nextF L b1 9 = (3, b2)) :
    Calls Try.prog 29 #[.pointer (some ⟨rb, 0, none⟩), .int .i64 kinds, .int .i64 ents] w fun e w' => e = .returned (.agg #[.int .i64 4, .int .i64 a1, .int .i64 (1 + (nextF L b2 12).1), .int .i64 0]) ∧ Only (· = rb) w w' ∧ RawP w' rb sa sc L (nextF L b2 12).2 := by
  have hb := nextF_lt L b2 (n := 12) (by omega)
  have hw : IntKind.i64.wrap (1 + (nextF L b2 12).1) = 1 + (nextF L b2 12).1 := by rw [IntKind.wrap_i64]; omega
  go_enter Try.func29, Try.ntmps29
  have hrb := lt_of_cell h.c0
  have Hfar : Hid (∀ b off, sa = some ⟨b, off, none⟩ → L ≠ [] → b < w.heap.size) := by
    intro b off hs hl
    obtain ⟨b', off', h1, _, h3⟩ := h.row 0 (List.length_pos_iff.2 hl)
    rw [hs] at h1
    simp only [Option.some.injEq, Addr.mk.injEq] at h1
    obtain ⟨rfl, _⟩ := h1
    exact lt_of_cell h3
  have hne : ¬ w.heap.size = rb := by omega
  go_wp2_with fail
  obtain ⟨W0, hW0⟩ : ∃ W0, W0 = w.alloc (.cells #[.int .i64 0, .int .i64 0, .int .i64 0, .int .i64 0] 82) := ⟨_, rfl⟩
  have hb0 : Below w.heap.size w W0 := by rw [hW0]; exact (Below.refl _ _).alloc (Nat.le_refl _) _
  have hroom : Room W0 w.heap.size 4 := by
    rw [hW0]
    intro j hj
    have : j = 0 ∨ j = 1 ∨ j = 2 ∨ j = 3 := by omega
    rcases this with rfl | rfl | rfl | rfl <;> simp [go_sem]
  have h0 : RawP W0 rb sa sc L I := h.only (Only.new (S := fun _ => False) hb0) (by simp) (by simp)
  rw [← hW0]
  clear hW0
  refine (next_any rb sa sc L I 4 _ h0 (by omega)).mono ?_
  rintro e w1 ⟨rfl, ho1, h1⟩
  rw [ha] at h1 ⊢
  have hroom1 := hroom.only ho1 hne
  go_wp2_with fail
  refine (next_any rb sa sc L b1 9 _ h1 (by omega)).mono ?_
  rintro e w2 ⟨rfl, ho2, h2⟩
  rw [hk] at h2 ⊢
  have hroom2 := hroom1.only ho2 hne
  go_wp2_with fail
  refine (next_any rb sa sc L b2 12 _ h2 (by omega)).mono ?_
  rintro e w3 ⟨rfl, ho3, h3⟩
  have hroom3 := hroom2.only ho3 hne
  obtain ⟨s0, y0⟩ := hroom3 0 (by omega)
  obtain ⟨s1, y1⟩ := hroom3 1 (by omega)
  obtain ⟨s2, y2⟩ := hroom3 2 (by omega)
  obtain ⟨s3, y3⟩ := hroom3 3 (by omega)
  obtain ⟨z0, x0⟩ := Option.isSome_iff_exists.1 s0
  obtain ⟨z1, x1⟩ := Option.isSome_iff_exists.1 s1
  obtain ⟨z2, x2⟩ := Option.isSome_iff_exists.1 s2
  obtain ⟨z3, x3⟩ := Option.isSome_iff_exists.1 s3
  have Hroom3 := hide hroom3
  have H3 := hide h3
  have HO := hide (((Only.new (S := (· = rb)) hb0).trans ho1).trans (ho2.trans ho3))
  clear h h0 h1 h2 h3 ho1 ho2 ho3 hroom hroom1 hroom2 hroom3 s0 s1 s2 s3 hb0
  generalize hp : nextF L b2 12 = p at hb hw H3 ⊢
  go_wp2_with fail
  obtain ⟨hOz, hPz⟩ := instr_lay (n := 0) ⟨4, a1, 1 + p.1, 0⟩ HO.out H3.out hne Hroom3.out Hfar.out
  obtain ⟨t0, t1, t2, t3⟩ := set4_same w3 w.heap.size 0 4 ⟨4, a1, 1 + p.1, 0⟩ Hroom3.out (by omega)
  obtain ⟨WZ, hWZ⟩ : ∃ WZ, WZ = set4 w3 w.heap.size 0 ⟨4, a1, 1 + p.1, 0⟩ := ⟨_, rfl⟩
  have hWZ' := hWZ
  simp only [set4, Nat.zero_add] at hWZ'
  rw [← hWZ] at t0 t1 t2 t3 hOz hPz
  rw [← hWZ']
  simp only [Nat.zero_add] at t1 t2 t3
  clear hWZ hWZ' x0 x1 x2 x3 y0 y1 y2 y3
  refine bodyPost_ret (v := .agg #[.int .i64 (4), .int .i64 (a1), .int .i64 (1 + p.1), .int .i64 (0)]) ?_ rfl ?_
  · rw [results_one rfl]; simp [go_sem, t0, t1, t2, t3]
  rw [hp]
  exact ⟨rfl, hOz, hPz⟩

set_option maxRecDepth 100000 in
set_option maxHeartbeats 4000000 in
theorem instr_4 (rb : Nat) (sa : Option Addr) (sc : Nat) (L : List Int) (I : Nat) (kinds ents : Int) (w : World) (h : RawP w rb sa sc L I) (a1 : Int) (b1 b2 : Nat) (ha : nextF L I 4 = (a1, b1)) (hk : nextF L b1 9 = (4, b2)) :
    Calls Try.prog 29 #[.pointer (some ⟨rb, 0, none⟩), .int .i64 kinds, .int .i64 ents] w fun e w' => e = .returned (.agg #[.int .i64 5, .int .i64 a1, .int .i64 (1 + (nextF L b2 3).1), .int .i64 0]) ∧ Only (· = rb) w w' ∧ RawP w' rb sa sc L (nextF L b2 3).2 := by
  have hb := nextF_lt L b2 (n := 3) (by omega)
  have hw : IntKind.i64.wrap (1 + (nextF L b2 3).1) = 1 + (nextF L b2 3).1 := by rw [IntKind.wrap_i64]; omega
  go_enter Try.func29, Try.ntmps29
  have hrb := lt_of_cell h.c0
  have Hfar : Hid (∀ b off, sa = some ⟨b, off, none⟩ → L ≠ [] → b < w.heap.size) := by
    intro b off hs hl
    obtain ⟨b', off', h1, _, h3⟩ := h.row 0 (List.length_pos_iff.2 hl)
    rw [hs] at h1
    simp only [Option.some.injEq, Addr.mk.injEq] at h1
    obtain ⟨rfl, _⟩ := h1
    exact lt_of_cell h3
  have hne : ¬ w.heap.size = rb := by omega
  go_wp2_with fail
  obtain ⟨W0, hW0⟩ : ∃ W0, W0 = w.alloc (.cells #[.int .i64 0, .int .i64 0, .int .i64 0, .int .i64 0] 82) := ⟨_, rfl⟩
  have hb0 : Below w.heap.size w W0 := by rw [hW0]; exact (Below.refl _ _).alloc (Nat.le_refl _) _
  have hroom : Room W0 w.heap.size 4 := by
    rw [hW0]
    intro j hj
    have : j = 0 ∨ j = 1 ∨ j = 2 ∨ j = 3 := by omega
    rcases this with rfl | rfl | rfl | rfl <;> simp [go_sem]
  have h0 : RawP W0 rb sa sc L I := h.only (Only.new (S := fun _ => False) hb0) (by simp) (by simp)
  rw [← hW0]
  clear hW0
  refine (next_any rb sa sc L I 4 _ h0 (by omega)).mono ?_
  rintro e w1 ⟨rfl, ho1, h1⟩
  rw [ha] at h1 ⊢
  have hroom1 := hroom.only ho1 hne
  go_wp2_with fail
  refine (next_any rb sa sc L b1 9 _ h1 (by omega)).mono ?_
  rintro e w2 ⟨rfl, ho2, h2⟩
  rw [hk] at h2 ⊢
  have hroom2 := hroom1.only ho2 hne
  go_wp2_with fail
  refine (next_any rb sa sc L b2 3 _ h2 (by omega)).mono ?_
  rintro e w3 ⟨rfl, ho3, h3⟩
  have hroom3 := hroom2.only ho3 hne
  obtain ⟨s0, y0⟩ := hroom3 0 (by omega)
  obtain ⟨s1, y1⟩ := hroom3 1 (by omega)
  obtain ⟨s2, y2⟩ := hroom3 2 (by omega)
  obtain ⟨s3, y3⟩ := hroom3 3 (by omega)
  obtain ⟨z0, x0⟩ := Option.isSome_iff_exists.1 s0
  obtain ⟨z1, x1⟩ := Option.isSome_iff_exists.1 s1
  obtain ⟨z2, x2⟩ := Option.isSome_iff_exists.1 s2
  obtain ⟨z3, x3⟩ := Option.isSome_iff_exists.1 s3
  have Hroom3 := hide hroom3
  have H3 := hide h3
  have HO := hide (((Only.new (S := (· = rb)) hb0).trans ho1).trans (ho2.trans ho3))
  clear h h0 h1 h2 h3 ho1 ho2 ho3 hroom hroom1 hroom2 hroom3 s0 s1 s2 s3 hb0
  generalize hp : nextF L b2 3 = p at hb hw H3 ⊢
  go_wp2_with fail
  obtain ⟨hOz, hPz⟩ := instr_lay (n := 0) ⟨5, a1, 1 + p.1, 0⟩ HO.out H3.out hne Hroom3.out Hfar.out
  obtain ⟨t0, t1, t2, t3⟩ := set4_same w3 w.heap.size 0 4 ⟨5, a1, 1 + p.1, 0⟩ Hroom3.out (by omega)
  obtain ⟨WZ, hWZ⟩ : ∃ WZ, WZ = set4 w3 w.heap.size 0 ⟨5, a1, 1 + p.1, 0⟩ := ⟨_, rfl⟩
  have hWZ' := hWZ
  simp only [set4, Nat.zero_add] at hWZ'
  rw [← hWZ] at t0 t1 t2 t3 hOz hPz
  rw [← hWZ']
  simp only [Nat.zero_add] at t1 t2 t3
  clear hWZ hWZ' x0 x1 x2 x3 y0 y1 y2 y3
  refine bodyPost_ret (v := .agg #[.int .i64 (5), .int .i64 (a1), .int .i64 (1 + p.1), .int .i64 (0)]) ?_ rfl ?_
  · rw [results_one rfl]; simp [go_sem, t0, t1, t2, t3]
  rw [hp]
  exact ⟨rfl, hOz, hPz⟩

set_option maxRecDepth 100000 in
set_option maxHeartbeats 4000000 in
theorem instr_5 (rb : Nat) (sa : Option Addr) (sc : Nat) (L : List Int) (I : Nat) (kinds ents : Int) (w : World) (h : RawP w rb sa sc L I) (a1 : Int) (b1 b2 : Nat) (ha : nextF L I 4 = (a1, b1)) (hk : nextF L b1 9 = (5, b2)) :
    Calls Try.prog 29 #[.pointer (some ⟨rb, 0, none⟩), .int .i64 kinds, .int .i64 ents] w fun e w' => e = .returned (.agg #[.int .i64 7, .int .i64 a1, .int .i64 0, .int .i64 0]) ∧ Only (· = rb) w w' ∧ RawP w' rb sa sc L b2 := by
  go_enter Try.func29, Try.ntmps29
  have hrb := lt_of_cell h.c0
  have Hfar : Hid (∀ b off, sa = some ⟨b, off, none⟩ → L ≠ [] → b < w.heap.size) := by
    intro b off hs hl
    obtain ⟨b', off', h1, _, h3⟩ := h.row 0 (List.length_pos_iff.2 hl)
    rw [hs] at h1
    simp only [Option.some.injEq, Addr.mk.injEq] at h1
    obtain ⟨rfl, _⟩ := h1
    exact lt_of_cell h3
  have hne : ¬ w.heap.size = rb := by omega
  go_wp2_with fail
  obtain ⟨W0, hW0⟩ : ∃ W0, W0 = w.alloc (.cells #[.int .i64 0, .int .i64 0, .int .i64 0, .int .i64 0] 82) := ⟨_, rfl⟩
  have hb0 : Below w.heap.size w W0 := by rw [hW0]; exact (Below.refl _ _).alloc (Nat.le_refl _) _
  have hroom : Room W0 w.heap.size 4 := by
    rw [hW0]
    intro j hj
    have : j = 0 ∨ j = 1 ∨ j = 2 ∨ j = 3 := by omega
    rcases this with rfl | rfl | rfl | rfl <;> simp [go_sem]
  have h0 : RawP W0 rb sa sc L I := h.only (Only.new (S := fun _ => False) hb0) (by simp) (by simp)
  rw [← hW0]
  clear hW0
  refine (next_any rb sa sc L I 4 _ h0 (by omega)).mono ?_
  rintro e w1 ⟨rfl, ho1, h1⟩
  rw [ha] at h1 ⊢
  have hroom1 := hroom.only ho1 hne
  go_wp2_with fail
  refine (next_any rb sa sc L b1 9 _ h1 (by omega)).mono ?_
  rintro e w2 ⟨rfl, ho2, h2⟩
  rw [hk] at h2 ⊢
  have hroom2 := hroom1.only ho2 hne
  obtain ⟨s0, y0⟩ := hroom2 0 (by omega)
  obtain ⟨s1, y1⟩ := hroom2 1 (by omega)
  obtain ⟨s2, y2⟩ := hroom2 2 (by omega)
  obtain ⟨s3, y3⟩ := hroom2 3 (by omega)
  obtain ⟨z0, x0⟩ := Option.isSome_iff_exists.1 s0
  obtain ⟨z1, x1⟩ := Option.isSome_iff_exists.1 s1
  obtain ⟨z2, x2⟩ := Option.isSome_iff_exists.1 s2
  obtain ⟨z3, x3⟩ := Option.isSome_iff_exists.1 s3
  have Hroom3 := hide hroom2
  have H3 := hide h2
  have HO := hide (((Only.new (S := (· = rb)) hb0).trans ho1).trans ho2)
  clear h h0 h1 h2 ho1 ho2 hroom hroom1 hroom2 s0 s1 s2 s3 hb0
  go_wp2_with fail
  obtain ⟨hOz, hPz⟩ := instr_lay (n := 0) ⟨7, a1, 0, 0⟩ HO.out H3.out hne Hroom3.out Hfar.out
  obtain ⟨t0, t1, t2, t3⟩ := set4_same w2 w.heap.size 0 4 ⟨7, a1, 0, 0⟩ Hroom3.out (by omega)
  obtain ⟨WZ, hWZ⟩ : ∃ WZ, WZ = set4 w2 w.heap.size 0 ⟨7, a1, 0, 0⟩ := ⟨_, rfl⟩
  have hWZ' := hWZ
  simp only [set4, Nat.zero_add] at hWZ'
  rw [← hWZ] at t0 t1 t2 t3 hOz hPz
  rw [← hWZ']
  simp only [Nat.zero_add] at t1 t2 t3
  clear hWZ hWZ' x0 x1 x2 x3 y0 y1 y2 y3
  refine bodyPost_ret (v := .agg #[.int .i64 (7), .int .i64 (a1), .int .i64 (0), .int .i64 (0)]) ?_ rfl ?_
  · rw [results_one rfl]; simp [go_sem, t0, t1, t2, t3]
  exact ⟨rfl, hOz, hPz⟩

set_option maxRecDepth 100000 in
set_option maxHeartbeats 4000000 in
theorem instr_6 (rb : Nat) (sa : Option Addr) (sc : Nat) (L : List Int) (I : Nat) (kinds ents : Int) (w : World) (h : RawP w rb sa sc L I) (a1 : Int) (b1 b2 : Nat) (ha : nextF L I 4 = (a1, b1)) (hk : nextF L b1 9 = (6, b2)) :
    Calls Try.prog 29 #[.pointer (some ⟨rb, 0, none⟩), .int .i64 kinds, .int .i64 ents] w fun e w' => e = .returned (.agg #[.int .i64 8, .int .i64 a1, .int .i64 0, .int .i64 0]) ∧ Only (· = rb) w w' ∧ RawP w' rb sa sc L b2 := by
  go_enter Try.func29, Try.ntmps29
  have hrb := lt_of_cell h.c0
  have Hfar : Hid (∀ b off, sa = some ⟨b, off, none⟩ → L ≠ [] → b < w.heap.size) := by
    intro b off hs hl
    obtain ⟨b', off', h1, _, h3⟩ := h.row 0 (List.length_pos_iff.2 hl)
    rw [hs] at h1
    simp only [Option.some.injEq, Addr.mk.injEq] at h1
    obtain ⟨rfl, _⟩ := h1
    exact lt_of_cell h3
  have hne : ¬ w.heap.size = rb := by omega
  go_wp2_with fail
  obtain ⟨W0, hW0⟩ : ∃ W0, W0 = w.alloc (.cells #[.int .i64 0, .int .i64 0, .int .i64 0, .int .i64 0] 82) := ⟨_, rfl⟩
  have hb0 : Below w.heap.size w W0 := by rw [hW0]; exact (Below.refl _ _).alloc (Nat.le_refl _) _
  have hroom : Room W0 w.heap.size 4 := by
    rw [hW0]
    intro j hj
    have : j = 0 ∨ j = 1 ∨ j = 2 ∨ j = 3 := by omega
    rcases this with rfl | rfl | rfl | rfl <;> simp [go_sem]
  have h0 : RawP W0 rb sa sc L I := h.only (Only.new (S := fun _ => False) hb0) (by simp) (by simp)
  rw [← hW0]
  clear hW0
  refine (next_any rb sa sc L I 4 _ h0 (by omega)).mono ?_
  rintro e w1 ⟨rfl, ho1, h1⟩
  rw [ha] at h1 ⊢
  have hroom1 := hroom.only ho1 hne
  go_wp2_with fail
  refine (next_any rb sa sc L b1 9 _ h1 (by omega)).mono ?_
  rintro e w2 ⟨rfl, ho2, h2⟩
  rw [hk] at h2 ⊢
  have hroom2 := hroom1.only ho2 hne
  obtain ⟨s0, y0⟩ := hroom2 0 (by omega)
  obtain ⟨s1, y1⟩ := hroom2 1 (by omega)
  obtain ⟨s2, y2⟩ := hroom2 2 (by omega)
  obtain ⟨s3, y3⟩ := hroom2 3 (by omega)
  obtain ⟨z0, x0⟩ := Option.isSome_iff_exists.1 s0
  obtain ⟨z1, x1⟩ := Option.isSome_iff_exists.1 s1
  obtain ⟨z2, x2⟩ := Option.isSome_iff_exists.1 s2
  obtain ⟨z3, x3⟩ := Option.isSome_iff_exists.1 s3
  have Hroom3 := hide hroom2
  have H3 := hide h2
  have HO := hide (((Only.new (S := (· = rb)) hb0).trans ho1).trans ho2)
  clear h h0 h1 h2 ho1 ho2 hroom hroom1 hroom2 s0 s1 s2 s3 hb0
  go_wp2_with fail
  obtain ⟨hOz, hPz⟩ := instr_lay (n := 0) ⟨8, a1, 0, 0⟩ HO.out H3.out hne Hroom3.out Hfar.out
  obtain ⟨t0, t1, t2, t3⟩ := set4_same w2 w.heap.size 0 4 ⟨8, a1, 0, 0⟩ Hroom3.out (by omega)
  obtain ⟨WZ, hWZ⟩ : ∃ WZ, WZ = set4 w2 w.heap.size 0 ⟨8, a1, 0, 0⟩ := ⟨_, rfl⟩
  have hWZ' := hWZ
  simp only [set4, Nat.zero_add] at hWZ'
  rw [← hWZ] at t0 t1 t2 t3 hOz hPz
  rw [← hWZ']
  simp only [Nat.zero_add] at t1 t2 t3
  clear hWZ hWZ' x0 x1 x2 x3 y0 y1 y2 y3
  refine bodyPost_ret (v := .agg #[.int .i64 (8), .int .i64 (a1), .int .i64 (0), .int .i64 (0)]) ?_ rfl ?_
  · rw [results_one rfl]; simp [go_sem, t0, t1, t2, t3]
  exact ⟨rfl, hOz, hPz⟩

set_option maxRecDepth 100000 in
set_option maxHeartbeats 4000000 in
theorem instr_7 (rb : Nat) (sa : Option Addr) (sc : Nat) (L : List Int) (I : Nat) (kinds ents : Int) (w : World) (h : RawP w rb sa sc L I) (a1 : Int) (b1 b2 : Nat) (ha : nextF L I 4 = (a1, b1)) (hk : nextF L b1 9 = (7, b2)) (hkk : 1 ≤ kinds ∧ kinds ≤ 8) (hee : 1 ≤ ents ∧ ents ≤ 8) :
    Calls Try.prog 29 #[.pointer (some ⟨rb, 0, none⟩), .int .i64 kinds, .int .i64 ents] w fun e w' => e = .returned (.agg #[.int .i64 6, .int .i64 (nextF L b2 kinds).1, .int .i64 (nextF L (nextF L b2 kinds).2 ents).1, .int .i64 a1]) ∧ Only (· = rb) w w' ∧ RawP w' rb sa sc L (nextF L (nextF L b2 kinds).2 ents).2 := by
  go_enter Try.func29, Try.ntmps29
  have hrb := lt_of_cell h.c0
  have Hfar : Hid (∀ b off, sa = some ⟨b, off, none⟩ → L ≠ [] → b < w.heap.size) := by
    intro b off hs hl
    obtain ⟨b', off', h1, _, h3⟩ := h.row 0 (List.length_pos_iff.2 hl)
    rw [hs] at h1
    simp only [Option.some.injEq, Addr.mk.injEq] at h1
    obtain ⟨rfl, _⟩ := h1
    exact lt_of_cell h3
  have hne : ¬ w.heap.size = rb := by omega
  go_wp2_with fail
  obtain ⟨W0, hW0⟩ : ∃ W0, W0 = w.alloc (.cells #[.int .i64 0, .int .i64 0, .int .i64 0, .int .i64 0] 82) := ⟨_, rfl⟩
  have hb0 : Below w.heap.size w W0 := by rw [hW0]; exact (Below.refl _ _).alloc (Nat.le_refl _) _
  have hroom : Room W0 w.heap.size 4 := by
    rw [hW0]
    intro j hj
    have : j = 0 ∨ j = 1 ∨ j = 2 ∨ j = 3 := by omega
    rcases this with rfl | rfl | rfl | rfl <;> simp [go_sem]
  have h0 : RawP W0 rb sa sc L I := h.only (Only.new (S := fun _ => False) hb0) (by simp) (by simp)
  rw [← hW0]
  clear hW0
  refine (next_any rb sa sc L I 4 _ h0 (by omega)).mono ?_
  rintro e w1 ⟨rfl, ho1, h1⟩
  rw [ha] at h1 ⊢
  have hroom1 := hroom.only ho1 hne
  go_wp2_with fail
  refine (next_any rb sa sc L b1 9 _ h1 (by omega)).mono ?_
  rintro e w2 ⟨rfl, ho2, h2⟩
  rw [hk] at h2 ⊢
  have hroom2 := hroom1.only ho2 hne
  go_wp2_with fail
  refine (next_any rb sa sc L b2 kinds _ h2 (by omega)).mono ?_
  rintro e w3 ⟨rfl, ho3, h3⟩
  have hroom3 := hroom2.only ho3 hne
  go_wp2_with fail
  refine (next_any rb sa sc L (nextF L b2 kinds).2 ents _ h3 (by omega)).mono ?_
  rintro e w4 ⟨rfl, ho4, h4⟩
  have hroom4 := hroom3.only ho4 hne
  obtain ⟨s0, y0⟩ := hroom4 0 (by omega)
  obtain ⟨s1, y1⟩ := hroom4 1 (by omega)
  obtain ⟨s2, y2⟩ := hroom4 2 (by omega)
  obtain ⟨s3, y3⟩ := hroom4 3 (by omega)
  obtain ⟨z0, x0⟩ := Option.isSome_iff_exists.1 s0
  obtain ⟨z1, x1⟩ := Option.isSome_iff_exists.1 s1
  obtain ⟨z2, x2⟩ := Option.isSome_iff_exists.1 s2
  obtain ⟨z3, x3⟩ := Option.isSome_iff_exists.1 s3
  have Hroom3 := hide hroom4
  have H3 := hide h4
  have HO := hide ((((Only.new (S := (· = rb)) hb0).trans ho1).trans (ho2.trans ho3)).trans ho4)
  clear h h0 h1 h2 h3 h4 ho1 ho2 ho3 ho4 hroom hroom1 hroom2 hroom3 hroom4 s0 s1 s2 s3 hb0
  generalize hp : nextF L b2 kinds = p at H3 ⊢
  generalize hp2 : nextF L p.2 ents = p2 at H3 ⊢
  go_wp2_with fail
  obtain ⟨hOz, hPz⟩ := instr_lay (n := 0) ⟨6, p.1, p2.1, a1⟩ HO.out H3.out hne Hroom3.out Hfar.out
  obtain ⟨t0, t1, t2, t3⟩ := set4_same w4 w.heap.size 0 4 ⟨6, p.1, p2.1, a1⟩ Hroom3.out (by omega)
  obtain ⟨WZ, hWZ⟩ : ∃ WZ, WZ = set4 w4 w.heap.size 0 ⟨6, p.1, p2.1, a1⟩ := ⟨_, rfl⟩
  have hWZ' := hWZ
  simp only [set4, Nat.zero_add] at hWZ'
  rw [← hWZ] at t0 t1 t2 t3 hOz hPz
  rw [← hWZ']
  simp only [Nat.zero_add] at t1 t2 t3
  clear hWZ hWZ' x0 x1 x2 x3 y0 y1 y2 y3
  refine bodyPost_ret (v := .agg #[.int .i64 (6), .int .i64 (p.1), .int .i64 (p2.1), .int .i64 (a1)]) ?_ rfl ?_
  · rw [results_one rfl]; simp [go_sem, t0, t1, t2, t3]
  rw [hp, hp2]
  exact ⟨rfl, hOz, hPz⟩

set_option maxRecDepth 100000 in
set_option maxHeartbeats 4000000 in
theorem instr_8 (rb : Nat) (sa : Option Addr) (sc : Nat) (L : List Int) (I : Nat) (kinds ents : Int) (w : World) (h : RawP w rb sa sc L I) (a1 : Int) (b1 b2 : Nat) (ha : nextF L I 4 = (a1, b1)) (hk : nextF L b1 9 = (8, b2)) (hkk : 1 ≤ kinds ∧ kinds ≤ 8) (hee : 1 ≤ ents ∧ ents ≤ 8) :
    Calls Try.prog 29 #[.pointer (some ⟨rb, 0, none⟩), .int .i64 kinds, .int .i64 ents] w fun e w' => e = .returned (.agg #[.int .i64 6, .int .i64 (nextF L b2 kinds).1, .int .i64 (nextF L (nextF L b2 kinds).2 ents).1, .int .i64 a1]) ∧ Only (· = rb) w w' ∧ RawP w' rb sa sc L (nextF L (nextF L b2 kinds).2 ents).2 := by
  go_enter Try.func29, Try.ntmps29
  have hrb := lt_of_cell h.c0
  have Hfar : Hid (∀ b off, sa = some ⟨b, off, none⟩ → L ≠ [] → b < w.heap.size) := by
    intro b off hs hl
    obtain ⟨b', off', h1, _, h3⟩ := h.row 0 (List.length_pos_iff.2 hl)
    rw [hs] at h1
    simp only [Option.some.injEq, Addr.mk.injEq] at h1
    obtain ⟨rfl, _⟩ := h1
    exact lt_of_cell h3
  have hne : ¬ w.heap.size = rb := by omega
  go_wp2_with fail
  obtain ⟨W0, hW0⟩ : ∃ W0, W0 = w.alloc (.cells #[.int .i64 0, .int .i64 0, .int .i64 0, .int .i64 0] 82) := ⟨_, rfl⟩
  have hb0 : Below w.heap.size w W0 := by rw [hW0]; exact (Below.refl _ _).alloc (Nat.le_refl _) _
  have hroom : Room W0 w.heap.size 4 := by
    rw [hW0]
    intro j hj
    have : j = 0 ∨ j = 1 ∨ j = 2 ∨ j = 3 := by omega
    rcases this with rfl | rfl | rfl | rfl <;> simp [go_sem]
  have h0 : RawP W0 rb sa sc L I := h.only (Only.new (S := fun _ => False) hb0) (by simp) (by simp)
  rw [← hW0]
  clear hW0
  refine (next_any rb sa sc L I 4 _ h0 (by omega)).mono ?_
  rintro e w1 ⟨rfl, ho1, h1⟩
  rw [ha] at h1 ⊢
  have hroom1 := hroom.only ho1 hne
  go_wp2_with fail
  refine (next_any rb sa sc L b1 9 _ h1 (by omega)).mono ?_
  rintro e w2 ⟨rfl, ho2, h2⟩
  rw [hk] at h2 ⊢
  have hroom2 := hroom1.only ho2 hne
  go_wp2_with fail
  refine (next_any rb sa sc L b2 kinds _ h2 (by omega)).mono ?_
  rintro e w3 ⟨rfl, ho3, h3⟩
  have hroom3 := hroom2.only ho3 hne
  go_wp2_with fail
  refine (next_any rb sa sc L (nextF L b2 kinds).2 ents _ h3 (by omega)).mono ?_
  rintro e w4 ⟨rfl, ho4, h4⟩
  have hroom4 := hroom3.only ho4 hne
  obtain ⟨s0, y0⟩ := hroom4 0 (by omega)
  obtain ⟨s1, y1⟩ := hroom4 1 (by omega)
  obtain ⟨s2, y2⟩ := hroom4 2 (by omega)
  obtain ⟨s3, y3⟩ := hroom4 3 (by omega)
  obtain ⟨z0, x0⟩ := Option.isSome_iff_exists.1 s0
  obtain ⟨z1, x1⟩ := Option.isSome_iff_exists.1 s1
  obtain ⟨z2, x2⟩ := Option.isSome_iff_exists.1 s2
  obtain ⟨z3, x3⟩ := Option.isSome_iff_exists.1 s3
  have Hroom3 := hide hroom4
  have H3 := hide h4
  have HO := hide ((((Only.new (S := (· = rb)) hb0).trans ho1).trans (ho2.trans ho3)).trans ho4)
  clear h h0 h1 h2 h3 h4 ho1 ho2 ho3 ho4 hroom hroom1 hroom2 hroom3 hroom4 s0 s1 s2 s3 hb0
  generalize hp : nextF L b2 kinds = p at H3 ⊢
  generalize hp2 : nextF L p.2 ents = p2 at H3 ⊢
  go_wp2_with fail
  obtain ⟨hOz, hPz⟩ := instr_lay (n := 0) ⟨6, p.1, p2.1, a1⟩ HO.out H3.out hne Hroom3.out Hfar.out
  obtain ⟨t0, t1, t2, t3⟩ := set4_same w4 w.heap.size 0 4 ⟨6, p.1, p2.1, a1⟩ Hroom3.out (by omega)
  obtain ⟨WZ, hWZ⟩ : ∃ WZ, WZ = set4 w4 w.heap.size 0 ⟨6, p.1, p2.1, a1⟩ := ⟨_, rfl⟩
  have hWZ' := hWZ
  simp only [set4, Nat.zero_add] at hWZ'
  rw [← hWZ] at t0 t1 t2 t3 hOz hPz
  rw [← hWZ']
  simp only [Nat.zero_add] at t1 t2 t3
  clear hWZ hWZ' x0 x1 x2 x3 y0 y1 y2 y3
  refine bodyPost_ret (v := .agg #[.int .i64 (6), .int .i64 (p.1), .int .i64 (p2.1), .int .i64 (a1)]) ?_ rfl ?_
  · rw [results_one rfl]; simp [go_sem, t0, t1, t2, t3]
  rw [hp, hp2]
  exact ⟨rfl, hOz, hPz⟩

end Go.Proofs.Ytndlmgocldckfaa
