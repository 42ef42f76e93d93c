import Derived.Test.YtndlmgocldckfaaGreatG01
import Derived.Laws.AppendOwnNone
namespace Go.Proofs.YtndlmgocldckfaaGreat
open Go.RowKit
set_option linter.unusedVariables false
set_option linter.unusedSimpArgs false
set_option maxRecDepth 100000
set_option maxHeartbeats 4000000
def IntsIn (R : Nat → Prop) (w : World) (v : Value) (l : List Int) : Prop :=
 l.length ≤ 17592186044416 ∧ ((v = .slice none 0 0 ∧ l = []) ∨ ∃ b off cap, v = .slice (some ⟨b, off, none⟩) l.length cap ∧ R b ∧ RowAt w b off (ints l))
def CodeIn (R : Nat → Prop) (w : World) (v : Value) (l : List Ins) : Prop :=
 l.length ≤ 4398046511104 ∧ ((v = .slice none 0 0 ∧ l = []) ∨ ∃ b off cap, v = .slice (some ⟨b, off, none⟩) l.length cap ∧ R b ∧ CodeAt w b off l)
def KindsIn (R : Nat → Prop) (w : World) (v : Value) (ks : List (List Ins)) : Prop :=
 ks.length ≤ 5864062014805 ∧ ((v = .slice none 0 0 ∧ ks = []) ∨ ∃ b off cap, v = .slice (some ⟨b, off, none⟩) ks.length cap ∧ R b ∧ ∀ (i : Nat) l, ks[i]? = some l → ∃ v, w.cell? ⟨b, off + i, none⟩ = some v ∧ CodeIn R w v l)
section
variable {R R' S : Nat → Prop} {w w' : World} {v : Value}
theorem IntsIn.mono {l : List Int} (h : IntsIn R w v l) (hR : ∀ b, R b → R' b) : IntsIn R' w v l := by
 obtain ⟨hl, h | ⟨b, off, cap, rfl, hb, hc⟩⟩ := h
 ·exact ⟨hl, .inl h⟩
 ·exact ⟨hl, .inr ⟨b, off, cap, rfl, hR b hb, hc⟩⟩
theorem CodeIn.mono {l : List Ins} (h : CodeIn R w v l) (hR : ∀ b, R b → R' b) : CodeIn R' w v l := by
 obtain ⟨hl, h | ⟨b, off, cap, rfl, hb, hc⟩⟩ := h
 ·exact ⟨hl, .inl h⟩
 ·exact ⟨hl, .inr ⟨b, off, cap, rfl, hR b hb, hc⟩⟩
theorem KindsIn.mono {ks : List (List Ins)} (h : KindsIn R w v ks) (hR : ∀ b, R b → R' b) : KindsIn R' w v ks := by
 obtain ⟨hl, h | ⟨b, off, cap, rfl, hb, hc⟩⟩ := h
 ·exact ⟨hl, .inl h⟩
 ·exact ⟨hl, .inr ⟨b, off, cap, rfl, hR b hb, fun i l hl => let ⟨v, h1, h2⟩ := hc i l hl; ⟨v, h1, h2.mono hR⟩⟩⟩
theorem IntsIn.only {l : List Int} (h : IntsIn R w v l) (ho : Only S w w') (hR : ∀ b, R b → ¬ S b) : IntsIn R w' v l := by
 obtain ⟨hl, h | ⟨b, off, cap, rfl, hb, hc⟩⟩ := h
 ·exact ⟨hl, .inl h⟩
 ·exact ⟨hl, .inr ⟨b, off, cap, rfl, hb, hc.only ho (hR b hb)⟩⟩
theorem CodeIn.only {l : List Ins} (h : CodeIn R w v l) (ho : Only S w w') (hR : ∀ b, R b → ¬ S b) : CodeIn R w' v l := by
 obtain ⟨hl, h | ⟨b, off, cap, rfl, hb, hc⟩⟩ := h
 ·exact ⟨hl, .inl h⟩
 ·exact ⟨hl, .inr ⟨b, off, cap, rfl, hb, hc.only ho (hR b hb)⟩⟩
theorem KindsIn.only {ks : List (List Ins)} (h : KindsIn R w v ks) (ho : Only S w w') (hR : ∀ b, R b → ¬ S b) : KindsIn R w' v ks := by
 obtain ⟨hl, h | ⟨b, off, cap, rfl, hb, hc⟩⟩ := h
 ·exact ⟨hl, .inl h⟩
 ·exact ⟨hl, .inr ⟨b, off, cap, rfl, hb, fun i l hl => let ⟨v, h1, h2⟩ := hc i l hl; ⟨v, ho.at h1 (hR b hb), h2.only ho hR⟩⟩⟩
theorem CodeIn.toV {B : Nat} {l : List Ins} (h : CodeIn R w v l) (hR : ∀ b, R b → b < B) : CodeV B w v l := by
 obtain ⟨hl, h | ⟨b, off, cap, rfl, hb, hc⟩⟩ := h
 ·exact ⟨hl, .inl h⟩
 ·exact ⟨hl, .inr (.inl ⟨b, off, cap, rfl, hR b hb, hc⟩)⟩
theorem KindsIn.toV {B : Nat} {ks : List (List Ins)} (h : KindsIn R w v ks) (hR : ∀ b, R b → b < B) : KindsV B w v ks := by
 obtain ⟨hl, h | ⟨b, off, cap, rfl, hb, hc⟩⟩ := h
 ·exact ⟨hl, .inl h⟩
 ·exact ⟨hl, .inr (.inl ⟨b, off, cap, rfl, hR b hb, fun i l hl => let ⟨v, h1, h2⟩ := hc i l hl; ⟨v, h1, h2.toV hR⟩⟩)⟩
theorem CodeIn.form {l : List Ins} (h : CodeIn R w v l) : ∃ sa sc, v = .slice sa l.length sc := by
 obtain ⟨_, ⟨rfl, rfl⟩ | ⟨b, off, cap, rfl, _, _⟩⟩ := h
 ·exact ⟨_, _, rfl⟩
 ·exact ⟨_, _, rfl⟩
theorem KindsIn.form {ks : List (List Ins)} (h : KindsIn R w v ks) : ∃ sa sc, v = .slice sa ks.length sc := by
 obtain ⟨_, ⟨rfl, rfl⟩ | ⟨b, off, cap, rfl, _, _⟩⟩ := h
 ·exact ⟨_, _, rfl⟩
 ·exact ⟨_, _, rfl⟩
theorem IntsIn.form {l : List Int} (h : IntsIn R w v l) : ∃ sa sc, v = .slice sa l.length sc := by
 obtain ⟨_, ⟨rfl, rfl⟩ | ⟨b, off, cap, rfl, _, _⟩⟩ := h
 ·exact ⟨_, _, rfl⟩
 ·exact ⟨_, _, rfl⟩
end
def SrcAt (w : World) (sv : Value) (m : Nat) (news : List Value) : Prop :=
 (sv = .slice none 0 0 ∧ m = 0 ∧ news = []) ∨ (∃ b off c, sv = .slice (some ⟨b, off, none⟩) m c ∧ RowAt w b off news) ∨ ∃ a c, sv = .slice (some a) m c ∧ news = []
theorem run_append_where {P : Program} {w : World} (base : Nat) (t ty e : TypeId) (i : TypeInfo) (z : Value) (ht : P.underlying t = some (.slice e)) (hi : P.info? e = some i) (hz : i.zero = some z)
  (v : Value) (n : Nat) (xs : List Value) (hown : w.ownsRow base e i.size v n xs)
  (a : Addr) (m c : Nat) (news : List Value) (hl : news.length = m * i.size) (hnews : ∀ j u, news[j]? = some u → w.cell? (a.add j) = some u) (h1 : ∀ u ∈ news, u.oneCell' = true)
  (h63 : n + m ≤ 9223372036854775807) (hbytes : (n + m) * i.bytes ≤ 140737488355328) (v' : Value) (w' : World)
  (hr : (Builtin.append_ #[t, t] ty #[v, .slice (some a) m c]).run P w = .ok v' w') : v'.ownBlock = v.ownBlock ∨ v'.ownBlock = some w.heap.size := by
 have hcells := fun g => hown.cells (g := g)
 obtain ⟨hx, ⟨rfl, rfl⟩ | ⟨g, cap, cur, rfl, hbg, hg, hnc, hcm, hcs, htake⟩⟩ := hown
 ·by_cases hm : m = 0
  ·subst hm
   have hn : news = [] := List.eq_nil_of_length_eq_zero (by simpa using hl)
   subst hn
   have h0 : (Builtin.append_ #[t, t] ty #[.slice none 0 0, .slice (some a) 0 c]).run P w = .ok (.slice none 0 0) w := by
    simp [Builtin.append_, run_underlying ht, sizeOf, typeInfo, hi, Builtin.lenOf, Builtin.firstCells, loadCells, loadCellsFrom]
   rw [h0] at hr
   cases hr
   exact .inl rfl
  ·have h0 := run_append_nil (P := P) w t ty e i z ht hi hz a m c news hl hnews (by omega) (by omega) (by have hb := hbytes; simp only [Nat.zero_add] at hb; omega)
   rw [h0] at hr
   cases hr
   exact .inr rfl
 ·by_cases hroom : n + m ≤ cap
  ·have hfit : n * i.size + news.length ≤ cur.size := by rw [hl, hcs, ← Nat.add_mul]; exact Nat.mul_le_mul_right _ hroom
   have h0 := run_append_room (P := P) w t ty e i ht hi g n cap cur hg a m c news hl hnews h1 hroom hfit
   rw [h0] at hr
   cases hr
   exact .inl rfl
  ·have h0 := run_append_grow (P := P) w t ty e i z ht hi hz ⟨g, 0, none⟩ n cap xs hx (hcells g rfl) a m c news hl hnews (by omega) (by omega) (growslice_fits (by omega) hbytes)
   rw [h0] at hr
   cases hr
   exact .inr rfl
theorem wpList_append_src {P : Program} {w : World} {ops : Array Oper} {rest : List Oper} {o : Oper} {a : Act} {Q : Exit → Act → World → Prop} (hgd : o.guard = none) (s x : Operand) (t : TypeId)
  (ho : o.op = .call { callee := .builtin .append, args := #[s, x], argTypes := #[t, t] })
  (base : Nat) (e : TypeId) (z : Value) (size bytes : Nat) (ht : P.underlying t = some (.slice e)) (hinfo : (P.info? e).map (fun i => (i.zero, i.size, i.bytes)) = some (some z, size, bytes))
  (hzs : z.cells.size = size) (hsz : 0 < size)
  (v : Value) (n : Nat) (xs : List Value) (hs : a.eval s = v) (hown : w.ownsRow base e size v n xs)
  (sv : Value) (m : Nat) (news : List Value) (hx : a.eval x = sv) (hsrc : SrcAt w sv m news) (hl : news.length = m * size) (h1 : ∀ u ∈ news, u.oneCell' = true)
  (hbytes : (n + m) * bytes ≤ 140737488355328) (h63 : n + m ≤ 9223372036854775807) (hbase : base ≤ w.heap.size)
  (h : ∀ v' w', Hid (w'.ownsRow base e size v' (n + m) (xs ++ news)) → Hid (w.grownBy w' v.ownBlock) → Hid (v'.ownBlock = v.ownBlock ∨ v'.ownBlock = some w.heap.size) → wpList P ops Q rest (a.put o.dst v') w') : wpList P ops Q (o :: rest) a w := by
 obtain ⟨i, hi, hz, hsz', hby⟩ := info_parts hinfo
 have hsrc' : (sv = .slice none 0 0 ∧ m = 0 ∧ news = []) ∨ ∃ ad c, sv = .slice (some ad) m c ∧ ∀ j u, news[j]? = some u → w.cell? (Addr.add ad j) = some u := by
  rcases hsrc with h | ⟨b, off, c, h, hrow⟩ | ⟨ad, c, h, h0⟩
  ·exact .inl h
  ·exact .inr ⟨⟨b, off, none⟩, c, h, fun j u hu => by rw [Addr.add_lit]; exact hrow j u hu⟩
  ·exact .inr ⟨ad, c, h, fun j u hu => by rw [h0] at hu; simp at hu⟩
 rcases hsrc' with ⟨rfl, rfl, rfl⟩ | ⟨ad, c, rfl, hnews⟩
 ·refine wpList_append_own_none hgd s x t ho base e i size ht hi v n xs hs hown hx ?_
  refine h v w (by show World.ownsRow _ _ _ _ _ _ _; simpa using hown) ⟨rfl, rfl, rfl, Nat.le_refl _, fun _ _ _ => rfl⟩ ?_
  exact .inl rfl
 ·subst hsz'
  subst hby
  obtain ⟨v', w', hr, h2, h3, h4⟩ := run_append_own (P := P) w base t o.type e i z i.size i.bytes ht hi hz rfl rfl hzs hsz v n xs hown ad m c news hl hnews h1 (by simp only [maxLen]; omega) hbytes hbase
  have h5 := run_append_where base t o.type e i z ht hi hz v n xs hown ad m c news hl hnews h1 h63 hbytes v' w' hr
  refine wpList_plain hgd fun K hK => ?_
  unfold Oper.wp
  simp [execOp, ho, resolve, invoke, builtin, hs, hx, hr, Result.andThen]
  exact hK _ _ (h v' w' h2 h3 h5)
theorem ints_one (l : List Int) : ∀ u ∈ ints l, u.oneCell' = true := by
 intro v hv; simp [ints] at hv; obtain ⟨x, _, rfl⟩ := hv; rfl
theorem flat_one (l : List Ins) : ∀ u ∈ flat l, u.oneCell' = true := by
 intro v hv; simp [flat, cells4] at hv; obtain ⟨x, _, rfl | rfl | rfl | rfl⟩ := hv <;> rfl
theorem owns_row {w : World} {base : Nat} {e : TypeId} {size : Nat} {v : Value} {n : Nat} {xs : List Value} (h : w.ownsRow base e size v n xs) :
  (v = .slice none 0 0 ∧ n = 0 ∧ xs = []) ∨ ∃ g cap, v = .slice (some ⟨g, 0, none⟩) n cap ∧ base ≤ g ∧ g < w.heap.size ∧ RowAt w g 0 xs := by
 obtain ⟨hx, ⟨rfl, rfl⟩ | ⟨g, cap, cur, rfl, hb, hg, rest⟩⟩ := h
 ·exact .inl ⟨rfl, rfl, List.eq_nil_of_length_eq_zero (by simpa using hx)⟩
 ·refine .inr ⟨g, cap, rfl, hb, (Array.getElem?_eq_some_iff.1 hg).1, ?_⟩
  have hown : w.ownsRow base e size (.slice (some ⟨g, 0, none⟩) n cap) n xs := ⟨hx, .inr ⟨g, cap, cur, rfl, hb, hg, rest⟩⟩
  intro j u hu
  have := hown.cells (g := g) rfl j u hu
  rwa [Addr.add_lit] at this
theorem owns_code {w : World} {base : Nat} {e : TypeId} {v : Value} {l : List Ins} (h : w.ownsRow base e 4 v l.length (flat l)) (hl : l.length ≤ 4398046511104) :
  CodeIn (fun b => base ≤ b ∧ b < w.heap.size) w v l := by
 rcases owns_row h with ⟨rfl, h0, _⟩ | ⟨g, cap, rfl, h1, h2, h3⟩
 ·exact ⟨hl, .inl ⟨rfl, List.eq_nil_of_length_eq_zero h0⟩⟩
 ·exact ⟨hl, .inr ⟨g, 0, cap, rfl, ⟨h1, h2⟩, h3.code⟩⟩
theorem owns_ints {w : World} {base : Nat} {e : TypeId} {v : Value} {l : List Int} (h : w.ownsRow base e 1 v l.length (ints l)) (hl : l.length ≤ 17592186044416) :
  IntsIn (fun b => base ≤ b ∧ b < w.heap.size) w v l := by
 rcases owns_row h with ⟨rfl, h0, _⟩ | ⟨g, cap, rfl, h1, h2, h3⟩
 ·exact ⟨hl, .inl ⟨rfl, List.eq_nil_of_length_eq_zero h0⟩⟩
 ·exact ⟨hl, .inr ⟨g, 0, cap, rfl, ⟨h1, h2⟩, h3⟩⟩
structure Ev where
 time : Int
 number : Int
 kind : Int
 entity : Int
structure Mom where
 time : Int
 number : Int
def Ev.mom (e : Ev) : Mom := ⟨e.time, e.number⟩
def aheadM (a b : Mom) : Bool := decide (a.time < b.time) || (decide (a.time = b.time) && decide (a.number < b.number))
def aheadF (a b : Ev) : Bool := decide (a.time < b.time) || (decide (a.time = b.time) && decide (a.number < b.number))
theorem aheadF_mom (a b : Ev) : aheadF a b = aheadM a.mom b.mom := rfl
theorem aheadM_iff (a b : Mom) : aheadM a b = true ↔ a.time < b.time ∨ (a.time = b.time ∧ a.number < b.number) := by simp [aheadM]
theorem aheadM_no (a b : Mom) : aheadM a b = false ↔ b.time < a.time ∨ (a.time = b.time ∧ b.number ≤ a.number) := by
 rw [← Bool.not_eq_true, aheadM_iff]; omega
theorem aheadM_asym {a b : Mom} (h : aheadM a b = true) : aheadM b a = false := by
 rw [aheadM_iff] at h; rw [aheadM_no]; omega
theorem aheadM_trans {a b c : Mom} (h : aheadM a b = true) (k : aheadM b c = true) : aheadM a c = true := by
 rw [aheadM_iff] at *; omega
theorem aheadM_ntrans {a b c : Mom} (h : aheadM a b = false) (k : aheadM b c = false) : aheadM a c = false := by
 rw [aheadM_no] at *; omega
theorem aheadM_self (a : Mom) : aheadM a a = false := by rw [aheadM_no]; omega
def swapF (f : Nat → Mom) (i j : Nat) : Nat → Mom := fun k => if k = i then f j else if k = j then f i else f k
def putF (f : Nat → Mom) (i : Nat) (m : Mom) : Nat → Mom := fun k => if k = i then m else f k
def HeapF (f : Nat → Mom) (n : Nat) : Prop := ∀ j, 0 < j → j < n → aheadM (f j) (f ((j - 1) / 2)) = false
def RiseF (f : Nat → Mom) (n i : Nat) : Prop :=
 (∀ j, 0 < j → j < n → j ≠ i → aheadM (f j) (f ((j - 1) / 2)) = false) ∧ (∀ j, 0 < i → 0 < j → j < n → (j - 1) / 2 = i → aheadM (f j) (f ((i - 1) / 2)) = false)
def SinkF (f : Nat → Mom) (n i0 i : Nat) : Prop :=
 (∀ j, 0 < j → j < n → (j - 1) / 2 ≠ i → (j ≠ i0 ∨ i ≠ i0) → aheadM (f j) (f ((j - 1) / 2)) = false) ∧ (∀ j, 0 < i → 0 < j → j < n → (j - 1) / 2 = i → aheadM (f j) (f ((i - 1) / 2)) = false)
theorem RiseF.swap {f : Nat → Mom} {n i : Nat} (h : RiseF f n i) (hi : 0 < i) (hn : i < n) (ha : aheadM (f i) (f ((i - 1) / 2)) = true) : RiseF (swapF f i ((i - 1) / 2)) n ((i - 1) / 2) := by
 obtain ⟨h1, h2⟩ := h
 have hp : (i - 1) / 2 < i := by omega
 generalize hP : (i - 1) / 2 = p at *
 refine ⟨?_, ?_⟩
 ·intro j hj hjn hjp
  by_cases hji : j = i
  ·subst hji
   simp [swapF, hP, show p ≠ j by omega]
   exact aheadM_asym ha
  ·by_cases hpi : (j - 1) / 2 = i
   ·have := h2 j hi hj hjn hpi
    simp [swapF, hji, hjp, hpi]; exact this
   ·by_cases hpp : (j - 1) / 2 = p
    ·have := h1 j hj hjn hji
     rw [hpp] at this
     simp [swapF, hji, hjp, hpp, show p ≠ i by omega]
     rw [Bool.eq_false_iff]
     intro hc
     rw [aheadM_trans hc ha] at this
     cases this
    ·simp [swapF, hji, hjp, hpi, hpp]
     exact h1 j hj hjn hji
 ·intro j hp0 hj hjn hjp
  have hg : (p - 1) / 2 < p := by omega
  have hpg := h1 p hp0 (by omega) (by omega)
  by_cases hji : j = i
  ·subst hji
   simp [swapF, show (p - 1) / 2 ≠ j by omega, show (p - 1) / 2 ≠ p by omega]
   exact hpg
  ·have := h1 j hj hjn hji
   rw [hjp] at this
   simp [swapF, hji, show j ≠ p by omega, show (p - 1) / 2 ≠ i by omega, show (p - 1) / 2 ≠ p by omega]
   exact aheadM_ntrans this hpg
theorem RiseF.done {f : Nat → Mom} {n i : Nat} (h : RiseF f n i) (he : i = 0 ∨ n ≤ i ∨ aheadM (f i) (f ((i - 1) / 2)) = false) : HeapF f n := by
 intro j hj hjn
 by_cases hji : j = i
 ·subst hji
  rcases he with h0 | h0 | h0
  ·omega
  ·omega
  ·exact h0
 ·exact h.1 j hj hjn hji
theorem SinkF.swap {f : Nat → Mom} {n i0 i c : Nat} (h : SinkF f n i0 i) (h0 : i0 ≤ i) (hc : (c - 1) / 2 = i) (hc0 : 0 < c) (hcn : c < n) (ha : aheadM (f c) (f i) = true)
  (hs : ∀ s, 0 < s → s < n → (s - 1) / 2 = i → aheadM (f s) (f c) = false) : SinkF (swapF f i c) n i0 c := by
 obtain ⟨h1, h2⟩ := h
 have hic : i < c := by omega
 refine ⟨?_, ?_⟩
 ·intro j hj hjn hjc _
  by_cases hjc' : j = c
  ·subst hjc'
   simp [swapF, hc, show j ≠ i by omega]
   exact aheadM_asym ha
  ·by_cases hji : j = i
   ·subst hji
    have := h2 c hj hc0 hcn hc
    simp [swapF, show (j - 1) / 2 ≠ j by omega, show (j - 1) / 2 ≠ c by omega]
    exact this
   ·by_cases hpi : (j - 1) / 2 = i
    ·simp [swapF, hjc', hji, hpi]
     exact hs j hj hjn hpi
    ·simp [swapF, hjc', hji, hpi, hjc]
     exact h1 j hj hjn hpi (by omega)
 ·intro j _ hj hjn hjc
  have := h1 j hj hjn (by omega) (by omega)
  rw [hjc] at this
  simp [swapF, hc, show j ≠ i by omega, show j ≠ c by omega]
  exact this
theorem SinkF.done {f : Nat → Mom} {n i0 i : Nat} (h : SinkF f n i0 i) (h0 : i0 ≤ i) (he : ∀ s, 0 < s → s < n → (s - 1) / 2 = i → aheadM (f s) (f i) = false) : RiseF f n i0 := by
 obtain ⟨h1, h2⟩ := h
 by_cases hi : i = i0
 ·subst hi
  refine ⟨?_, h2⟩
  intro j hj hjn hji
  by_cases hpi : (j - 1) / 2 = i
  ·rw [hpi]; exact he j hj hjn hpi
  ·exact h1 j hj hjn hpi (.inl hji)
 ·have hall : ∀ j, 0 < j → j < n → aheadM (f j) (f ((j - 1) / 2)) = false := by
   intro j hj hjn
   by_cases hpi : (j - 1) / 2 = i
   ·rw [hpi]; exact he j hj hjn hpi
   ·exact h1 j hj hjn hpi (.inr hi)
  refine ⟨fun j hj hjn _ => hall j hj hjn, ?_⟩
  intro j hi0 hj hjn hp
  have a := hall j hj hjn
  rw [hp] at a
  exact aheadM_ntrans a (hall i0 hi0 (by omega))
theorem SinkF.start {f : Nat → Mom} {n i : Nat} (h : HeapF f (n + 1)) (hi : i < n) : SinkF (putF f i (f n)) n i i := by
 refine ⟨?_, ?_⟩
 ·intro j hj hjn hp hji
  have hji' : j ≠ i := by omega
  simp [putF, hji', hp]
  exact h j hj (by omega)
 ·intro j hi0 hj hjn hp
  have a := h j hj (by omega)
  have b := h i hi0 (by omega)
  rw [hp] at a
  simp [putF, show j ≠ i by omega, show (i - 1) / 2 ≠ i by omega]
  exact aheadM_ntrans a b
theorem HeapF.min {f : Nat → Mom} {n : Nat} (h : HeapF f n) : ∀ i, i < n → aheadM (f i) (f 0) = false := by
 intro i
 induction i using Nat.strongRecOn with
 | _ i ih =>
  intro hi
  by_cases h0 : i = 0
  ·subst h0; exact aheadM_self _
  ·exact aheadM_ntrans (h i (by omega) hi) (ih ((i - 1) / 2) (by omega) (by omega))
def InjF (f : Nat → Mom) (n : Nat) : Prop := ∀ i j, i < n → j < n → f i = f j → i = j
structure MomsOf (f : Nat → Mom) (n : Nat) (q : List Ev) : Prop where
 len : q.length = n
 inj : InjF f n
 sub : ∀ i, i < n → ∃ e, e ∈ q ∧ f i = e.mom
 sup : ∀ e, e ∈ q → ∃ i, i < n ∧ f i = e.mom
theorem MomsOf.swap {f : Nat → Mom} {n : Nat} {q : List Ev} (h : MomsOf f n q) {i j : Nat} (hi : i < n) (hj : j < n) : MomsOf (swapF f i j) n q := by
 have hg : ∀ k, k < n → ∃ k', k' < n ∧ swapF f i j k = f k' := by
  intro k hk
  unfold swapF
  by_cases h1 : k = i
  ·exact ⟨j, hj, by simp [h1]⟩
  ·by_cases h2 : k = j
   ·exact ⟨i, hi, by simp [h1, h2]; intro e; subst e; omega⟩
   ·exact ⟨k, hk, by simp [h1, h2]⟩
 refine ⟨h.len, ?_, ?_, ?_⟩
 ·intro a b ha hb e
  unfold swapF at e
  have hij := h.inj
  by_cases a1 : a = i <;> by_cases b1 : b = i <;> by_cases a2 : a = j <;> by_cases b2 : b = j <;> simp [a1, b1, a2, b2] at e <;> (try omega)
  all_goals
   first
   | (have := hij _ _ (by omega) (by omega) e; omega)
   | (have := hij _ _ (by omega) (by omega) (e (by omega)); omega)
   | (split at e <;> first | (have := hij _ _ (by omega) (by omega) e; omega) | omega)
 ·intro k hk
  obtain ⟨k', hk', e⟩ := hg k hk
  rw [e]; exact h.sub k' hk'
 ·intro e he
  obtain ⟨k, hk, e1⟩ := h.sup e he
  by_cases h1 : k = i
  ·refine ⟨j, hj, ?_⟩
   subst h1
   by_cases hji : j = k
   ·subst hji; simp [swapF, e1]
   ·simp [swapF, hji, e1]
  ·by_cases h2 : k = j
   ·subst h2; exact ⟨i, hi, by simp [swapF, e1]⟩
   ·exact ⟨k, hk, by simp [swapF, h1, h2, e1]⟩
theorem MomsOf.cons {f : Nat → Mom} {n : Nat} {q q' : List Ev} {e : Ev} (h : MomsOf f n q) (hnew : ∀ x ∈ q, x.number ≠ e.number) (hl : q'.length = n + 1) (hq : ∀ x, x ∈ q' ↔ x = e ∨ x ∈ q) : MomsOf (putF f n e.mom) (n + 1) q' := by
 have old : ∀ k, k < n → f k ≠ e.mom := by
  intro k hk hc
  obtain ⟨x, hx, hfx⟩ := h.sub k hk
  exact hnew x hx (by rw [hfx] at hc; exact congrArg Mom.number hc)
 refine ⟨hl, ?_, ?_, ?_⟩
 ·intro a b ha hb hab
  unfold putF at hab
  by_cases h1 : a = n <;> by_cases h2 : b = n <;> simp [h1, h2] at hab
  ·omega
  ·exact absurd hab.symm (old b (by omega))
  ·exact absurd hab (old a (by omega))
  ·exact h.inj a b (by omega) (by omega) hab
 ·intro k hk
  by_cases h1 : k = n
  ·exact ⟨e, (hq e).2 (.inl rfl), by simp [putF, h1]⟩
  ·obtain ⟨x, hx, hfx⟩ := h.sub k (by omega)
   exact ⟨x, (hq x).2 (.inr hx), by simp [putF, h1, hfx]⟩
 ·intro x hx
  rcases (hq x).1 hx with rfl | hx
  ·exact ⟨n, by omega, by simp [putF]⟩
  ·obtain ⟨k, hk, hfk⟩ := h.sup x hx
   exact ⟨k, by omega, by simp [putF, show k ≠ n by omega, hfk]⟩
theorem MomsOf.remove {f : Nat → Mom} {n i : Nat} {q q' : List Ev} {e : Ev} (h : MomsOf f (n + 1) q) (hi : i < n + 1) (hfi : f i = e.mom) (hnum : ∀ x ∈ q, x.number = e.number → x = e) (hl : q'.length = n) (hq : ∀ x, x ∈ q' ↔ x ∈ q ∧ x.number ≠ e.number) : MomsOf (putF f i (f n)) n q' := by
 refine ⟨hl, ?_, ?_, ?_⟩
 ·intro a b ha hb hab
  unfold putF at hab
  by_cases h1 : a = i <;> by_cases h2 : b = i <;> simp [h1, h2] at hab
  ·omega
  ·have := h.inj _ _ (by omega) (by omega) hab; omega
  ·have := h.inj _ _ (by omega) (by omega) hab; omega
  ·exact h.inj a b (by omega) (by omega) hab
 ·intro k hk
  have key : ∀ k', k' < n + 1 → k' ≠ i → ∃ x, x ∈ q' ∧ f k' = x.mom := by
   intro k' hk' hne
   obtain ⟨x, hx, hfx⟩ := h.sub k' hk'
   refine ⟨x, (hq x).2 ⟨hx, fun hn => hne ?_⟩, hfx⟩
   have : x = e := hnum x hx hn
   subst this
   exact h.inj _ _ hk' hi (hfx.trans hfi.symm)
  unfold putF
  by_cases h1 : k = i
  ·simp [h1]; exact key n (by omega) (by omega)
  ·simp [h1]; exact key k (by omega) h1
 ·intro x hx
  obtain ⟨hxq, hxn⟩ := (hq x).1 hx
  obtain ⟨k, hk, hfk⟩ := h.sup x hxq
  have hki : k ≠ i := by
   intro e1; subst e1
   rw [hfi] at hfk
   exact hxn (congrArg Mom.number hfk).symm
  by_cases hkn : k = n
  ·subst hkn
   exact ⟨i, by omega, by simp [putF, hfk]⟩
  ·exact ⟨k, by omega, by simp [putF, hki, hfk]⟩
def Sorted (q : List Ev) : Prop := q.Pairwise (fun a b => aheadF a b = true)
def Distinct (q : List Ev) : Prop := q.Pairwise (fun a b => a.number ≠ b.number)
theorem Distinct.eq {q : List Ev} (h : Distinct q) {a b : Ev} (ha : a ∈ q) (hb : b ∈ q) (e : a.number = b.number) : a = b := by
 induction q with
 | nil => simp at ha
 | cons x q ih =>
  rcases List.pairwise_cons.1 h with ⟨h1, h2⟩
  rcases List.mem_cons.1 ha with ha' | ha' <;> rcases List.mem_cons.1 hb with hb' | hb'
  ·rw [ha', hb']
  ·exact absurd (by rw [← e, ha']) (h1 b hb')
  ·exact absurd (by rw [e, hb']) (h1 a ha')
  ·exact ih h2 ha' hb'
theorem MomsOf.first {f : Nat → Mom} {n : Nat} {e : Ev} {q : List Ev} (h : MomsOf f n (e :: q)) (hh : HeapF f n) (hs : Sorted (e :: q)) (hd : Distinct (e :: q)) : 0 < n ∧ f 0 = e.mom := by
 have hn : 0 < n := by have := h.len; simp at this; omega
 refine ⟨hn, ?_⟩
 obtain ⟨x, hx, hfx⟩ := h.sub 0 hn
 rcases List.mem_cons.1 hx with rfl | hx
 ·exact hfx
 ·have h1 := (List.pairwise_cons.1 hs).1 x hx
  obtain ⟨k, hk, hfk⟩ := h.sup e (by simp)
  have := hh.min k hk
  rw [hfk, hfx, ← aheadF_mom, h1] at this
  cases this
def posF (e : Ev) : List Ev → Nat
 | [] => 0
 | x :: q => if aheadF x e then posF e q + 1 else 0
theorem posF_le (e : Ev) : ∀ q, posF e q ≤ q.length
 | [] => Nat.le_refl _
 | x :: q => by unfold posF; split <;> simp; exact posF_le e q
theorem posF_drop {e : Ev} {q : List Ev} {k : Nat} (h : k < q.length) : posF e (q.drop k) = if aheadF q[k] e then posF e (q.drop (k + 1)) + 1 else 0 := by
 rw [List.drop_eq_getElem_cons h, posF]
def insF (e : Ev) (q : List Ev) : List Ev := q.take (posF e q) ++ e :: q.drop (posF e q)
theorem insF_length (e : Ev) (q : List Ev) : (insF e q).length = q.length + 1 := by
 have := posF_le e q
 simp [insF]; omega
theorem insF_cons (e x : Ev) (q : List Ev) : insF e (x :: q) = if aheadF x e then x :: insF e q else e :: x :: q := by
 unfold insF
 rw [posF]
 split <;> simp
theorem insF_mem (e : Ev) : ∀ (q : List Ev) (x : Ev), x ∈ insF e q ↔ x = e ∨ x ∈ q
 | [], x => by simp [insF, posF]
 | y :: q, x => by
  rw [insF_cons]
  split
  ·have := insF_mem e q x
   simp only [List.mem_cons, this]
   constructor
   ·rintro (h | h | h) <;> simp [h]
   ·rintro (h | h | h) <;> simp [h]
  ·simp [List.mem_cons]
theorem insF_distinct (e : Ev) : ∀ (q : List Ev), Distinct q → (∀ x ∈ q, x.number ≠ e.number) → Distinct (insF e q)
 | [], _, _ => by simp [insF, posF, Distinct]
 | y :: q, h, hn => by
  rw [insF_cons]
  obtain ⟨h1, h2⟩ := List.pairwise_cons.1 h
  split
  ·refine List.pairwise_cons.2 ⟨?_, insF_distinct e q h2 (fun x hx => hn x (by simp [hx]))⟩
   intro x hx
   rcases (insF_mem e q x).1 hx with rfl | hx
   ·exact hn y (by simp)
   ·exact h1 x hx
  ·exact List.pairwise_cons.2 ⟨fun x hx => (hn x hx).symm, h⟩
theorem insF_sorted (e : Ev) : ∀ (q : List Ev), Sorted q → (∀ x ∈ q, x.number ≠ e.number) → Sorted (insF e q)
 | [], _, _ => by simp [insF, posF, Sorted]
 | y :: q, h, hn => by
  rw [insF_cons]
  obtain ⟨h1, h2⟩ := List.pairwise_cons.1 h
  split
  ·rename_i hy
   refine List.pairwise_cons.2 ⟨?_, insF_sorted e q h2 (fun x hx => hn x (by simp [hx]))⟩
   intro x hx
   rcases (insF_mem e q x).1 hx with rfl | hx
   ·exact hy
   ·exact h1 x hx
  ·rename_i hy
   have hey : aheadF e y = true := by
    have hne := hn y (by simp)
    have : aheadF y e = false := by simpa using hy
    rw [aheadF_mom, aheadM_no] at this
    rw [aheadF_mom, aheadM_iff]
    simp only [Ev.mom] at *
    omega
   refine List.pairwise_cons.2 ⟨?_, h⟩
   intro x hx
   rcases List.mem_cons.1 hx with rfl | hx
   ·exact hey
   ·have := h1 x hx
    rw [aheadF_mom] at *
    exact aheadM_trans hey this
def outF (n : Int) (q : List Ev) : List Ev := q.filter (fun e => decide (e.number ≠ n))
theorem outF_mem (n : Int) (q : List Ev) (x : Ev) : x ∈ outF n q ↔ x ∈ q ∧ x.number ≠ n := by simp [outF]
theorem outF_sorted {n : Int} {q : List Ev} (h : Sorted q) : Sorted (outF n q) := List.Pairwise.filter _ h
theorem outF_distinct {n : Int} {q : List Ev} (h : Distinct q) : Distinct (outF n q) := List.Pairwise.filter _ h
theorem outF_none {n : Int} {q : List Ev} (h : ∀ x ∈ q, x.number ≠ n) : outF n q = q := List.filter_eq_self.2 (by simpa using h)
theorem outF_length {n : Int} : ∀ {q : List Ev}, Distinct q → ∀ {e : Ev}, e ∈ q → e.number = n → (outF n q).length + 1 = q.length
 | x :: q, hd, e, he, hen => by
  obtain ⟨h1, h2⟩ := List.pairwise_cons.1 hd
  rcases List.mem_cons.1 he with rfl | he
  ·have : outF n q = q := outF_none (fun y hy => by rw [← hen]; exact (h1 y hy).symm)
   simp [outF, hen] at this ⊢
   exact this
  ·have ih := outF_length h2 he hen
   have hx : x.number ≠ n := by rw [← hen]; exact h1 e he
   simp [outF, hx] at ih ⊢
   omega
theorem outF_head {e : Ev} {q : List Ev} (h : Distinct (e :: q)) : outF e.number (e :: q) = q := by
 obtain ⟨h1, h2⟩ := List.pairwise_cons.1 h
 have : outF e.number q = q := outF_none (fun y hy => (h1 y hy).symm)
 simpa [outF] using this
structure Rec where
 e : Ev
 told : List Int
theorem Tryz.infoR : (Tryz.prog.info? 46).map (fun i => (i.zero, i.size, i.bytes)) = some (some (.agg #[.int .i64 0, .int .i64 0, .int .i64 0, .int .i64 0, .slice none 0 0]), 5, 56) := by kernel_rfl
structure RecC where
 e : Ev
 sa : Option Addr
 n : Nat
 sc : Nat
def RecC.v (x : RecC) : Value := .agg #[.int .i64 x.e.number, .int .i64 x.e.time, .int .i64 x.e.kind, .int .i64 x.e.entity, .slice x.sa x.n x.sc]
def RecC.cells (x : RecC) : List Value := [.int .i64 x.e.number, .int .i64 x.e.time, .int .i64 x.e.kind, .int .i64 x.e.entity, .slice x.sa x.n x.sc]
def recCells (l : List RecC) : List Value := l.flatMap RecC.cells
theorem recCells_get : ∀ (l : List RecC) (i r : Nat), r < 5 → (recCells l)[i * 5 + r]? = l[i]?.bind fun x => (x.cells)[r]?
 | [], i, r, _ => by simp [recCells]
 | x :: l, 0, r, h => by
  have : r = 0 ∨ r = 1 ∨ r = 2 ∨ r = 3 ∨ r = 4 := by omega
  rcases this with rfl | rfl | rfl | rfl | rfl <;> simp [recCells, RecC.cells]
 | x :: l, i + 1, r, h => by
  have ih := recCells_get l i r h
  have e : (i + 1) * 5 + r = (i * 5 + r) + 1 + 1 + 1 + 1 + 1 := by omega
  rw [e]
  simpa [recCells, RecC.cells] using ih
def ToldIn (w : World) (sa : Option Addr) (l : List Int) : Prop := ∀ (k : Nat) t, l[k]? = some t → ∃ g o, sa = some ⟨g, o, none⟩ ∧ w.cell? ⟨g, o + k, none⟩ = some (.int .i64 t)
def RecIn (w : World) (a : Option Addr) (rs : List Rec) : Prop := ∀ (i : Nat) r, rs[i]? = some r → ∃ b off sa sc, a = some ⟨b, off, none⟩ ∧ w.cell? ⟨b, off + i * 5, none⟩ = some (.int .i64 r.e.number) ∧ w.cell? ⟨b, off + i * 5 + 1, none⟩ = some (.int .i64 r.e.time) ∧ w.cell? ⟨b, off + i * 5 + 2, none⟩ = some (.int .i64 r.e.kind) ∧ w.cell? ⟨b, off + i * 5 + 3, none⟩ = some (.int .i64 r.e.entity) ∧
  w.cell? ⟨b, off + i * 5 + 4, none⟩ = some (.slice sa r.told.length sc) ∧ ToldIn w sa r.told
theorem ToldIn.below {w w' : World} {sa : Option Addr} {l : List Int} (h : ToldIn w sa l) (hb : Below w.heap.size w w') : ToldIn w' sa l := by
 intro k t ht
 obtain ⟨g, o, h1, h2⟩ := h k t ht
 exact ⟨g, o, h1, below_at hb h2 (lt_of_cell h2)⟩
theorem RecIn.below {w w' : World} {a : Option Addr} {rs : List Rec} (h : RecIn w a rs) (hb : Below w.heap.size w w') : RecIn w' a rs := by
 intro i r hr
 obtain ⟨b, off, sa, sc, h0, c0, c1, c2, c3, c4, ct⟩ := h i r hr
 exact ⟨b, off, sa, sc, h0, below_at hb c0 (lt_of_cell c0), below_at hb c1 (lt_of_cell c1), below_at hb c2 (lt_of_cell c2), below_at hb c3 (lt_of_cell c3), below_at hb c4 (lt_of_cell c4), ct.below hb⟩
end Go.Proofs.YtndlmgocldckfaaGreat
