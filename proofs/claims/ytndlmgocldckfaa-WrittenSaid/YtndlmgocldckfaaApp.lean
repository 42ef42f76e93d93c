import Derived.Test.YtndlmgocldckfaaGen
import Derived.Laws.AppendOwnNone
namespace Go.Proofs.Ytndlmgocldckfaa
open Go.RowKit
set_option linter.unusedVariables false
set_option linter.unusedSimpArgs false

/-! Data in blocks of which R says that they may hold them; append. -/

def IntsIn (R : Nat → Prop) (w : World) (v : Value) (l : List Int) : Prop :=
  l.length ≤ 17592186044416 ∧ ((v = .slice none 0 0 ∧ l = []) ∨ ∃ b off cap, v = .slice (some ⟨b, off, none⟩) l.length cap ∧ R b ∧ RowAt w b off (ints l))
def CodeIn (R : Nat → Prop) (w : World) (v : Value) (l : List Ins) : Prop :=
  l.length ≤ 4398046511104 ∧ ((v = .slice none 0 0 ∧ l = []) ∨ ∃ b off cap, v = .slice (some ⟨b, off, none⟩) l.length cap ∧ R b ∧ CodeAt w b off l)
def KindsIn (R : Nat → Prop) (w : World) (v : Value) (ks : List (List Ins)) : Prop :=
  ks.length ≤ 5864062014805 ∧ ((v = .slice none 0 0 ∧ ks = []) ∨ ∃ b off cap, v = .slice (some ⟨b, off, none⟩) ks.length cap ∧ R b ∧ ∀ (i : Nat) l, ks[i]? = some l → ∃ v, w.cell? ⟨b, off + i, none⟩ = some v ∧ CodeIn R w v l)

section
variable {R R' S : Nat → Prop} {w w' : World} {v : Value}
theorem IntsIn.mono {l : List Int} (h : IntsIn R w v l) (hR : ∀ b, R b → R' b) : IntsIn R' w v l := by
  obtain ⟨hl, h | ⟨b, off, cap, rfl, hb, hc⟩⟩ := h
  · exact ⟨hl, .inl h⟩
  · exact ⟨hl, .inr ⟨b, off, cap, rfl, hR b hb, hc⟩⟩
theorem CodeIn.mono {l : List Ins} (h : CodeIn R w v l) (hR : ∀ b, R b → R' b) : CodeIn R' w v l := by
  obtain ⟨hl, h | ⟨b, off, cap, rfl, hb, hc⟩⟩ := h
  · exact ⟨hl, .inl h⟩
  · exact ⟨hl, .inr ⟨b, off, cap, rfl, hR b hb, hc⟩⟩
theorem KindsIn.mono {ks : List (List Ins)} (h : KindsIn R w v ks) (hR : ∀ b, R b → R' b) : KindsIn R' w v ks := by
  obtain ⟨hl, h | ⟨b, off, cap, rfl, hb, hc⟩⟩ := h
  · exact ⟨hl, .inl h⟩
  · exact ⟨hl, .inr ⟨b, off, cap, rfl, hR b hb, fun i l hl => let ⟨v, h1, h2⟩ := hc i l hl; ⟨v, h1, h2.mono hR⟩⟩⟩
theorem IntsIn.only {l : List Int} (h : IntsIn R w v l) (ho : Only S w w') (hR : ∀ b, R b → ¬ S b) : IntsIn R w' v l := by
  obtain ⟨hl, h | ⟨b, off, cap, rfl, hb, hc⟩⟩ := h
  · exact ⟨hl, .inl h⟩
  · exact ⟨hl, .inr ⟨b, off, cap, rfl, hb, hc.only ho (hR b hb)⟩⟩
theorem CodeIn.only {l : List Ins} (h : CodeIn R w v l) (ho : Only S w w') (hR : ∀ b, R b → ¬ S b) : CodeIn R w' v l := by
  obtain ⟨hl, h | ⟨b, off, cap, rfl, hb, hc⟩⟩ := h
  · exact ⟨hl, .inl h⟩
  · exact ⟨hl, .inr ⟨b, off, cap, rfl, hb, hc.only ho (hR b hb)⟩⟩
theorem KindsIn.only {ks : List (List Ins)} (h : KindsIn R w v ks) (ho : Only S w w') (hR : ∀ b, R b → ¬ S b) : KindsIn R w' v ks := by
  obtain ⟨hl, h | ⟨b, off, cap, rfl, hb, hc⟩⟩ := h
  · exact ⟨hl, .inl h⟩
  · exact ⟨hl, .inr ⟨b, off, cap, rfl, hb, fun i l hl => let ⟨v, h1, h2⟩ := hc i l hl; ⟨v, ho.at h1 (hR b hb), h2.only ho hR⟩⟩⟩
theorem CodeIn.toV {B : Nat} {l : List Ins} (h : CodeIn R w v l) (hR : ∀ b, R b → b < B) : CodeV B w v l := by
  obtain ⟨hl, h | ⟨b, off, cap, rfl, hb, hc⟩⟩ := h
  · exact ⟨hl, .inl h⟩
  · exact ⟨hl, .inr (.inl ⟨b, off, cap, rfl, hR b hb, hc⟩)⟩
theorem KindsIn.toV {B : Nat} {ks : List (List Ins)} (h : KindsIn R w v ks) (hR : ∀ b, R b → b < B) : KindsV B w v ks := by
  obtain ⟨hl, h | ⟨b, off, cap, rfl, hb, hc⟩⟩ := h
  · exact ⟨hl, .inl h⟩
  · exact ⟨hl, .inr (.inl ⟨b, off, cap, rfl, hR b hb, fun i l hl => let ⟨v, h1, h2⟩ := hc i l hl; ⟨v, h1, h2.toV hR⟩⟩)⟩
theorem CodeIn.form {l : List Ins} (h : CodeIn R w v l) : ∃ sa sc, v = .slice sa l.length sc := by
  obtain ⟨_, ⟨rfl, rfl⟩ | ⟨b, off, cap, rfl, _, _⟩⟩ := h
  · exact ⟨_, _, rfl⟩
  · exact ⟨_, _, rfl⟩
theorem KindsIn.form {ks : List (List Ins)} (h : KindsIn R w v ks) : ∃ sa sc, v = .slice sa ks.length sc := by
  obtain ⟨_, ⟨rfl, rfl⟩ | ⟨b, off, cap, rfl, _, _⟩⟩ := h
  · exact ⟨_, _, rfl⟩
  · exact ⟨_, _, rfl⟩
theorem IntsIn.form {l : List Int} (h : IntsIn R w v l) : ∃ sa sc, v = .slice sa l.length sc := by
  obtain ⟨_, ⟨rfl, rfl⟩ | ⟨b, off, cap, rfl, _, _⟩⟩ := h
  · exact ⟨_, _, rfl⟩
  · exact ⟨_, _, rfl⟩
end

/-- What is appended: nil, or a row that lies somewhere. -/
def SrcAt (w : World) (sv : Value) (m : Nat) (news : List Value) : Prop :=
  (sv = .slice none 0 0 ∧ m = 0 ∧ news = []) ∨ (∃ b off c, sv = .slice (some ⟨b, off, none⟩) m c ∧ RowAt w b off news) ∨ ∃ a c, sv = .slice (some a) m c ∧ news = []

/-- Where the row of an append lies: where it lay, or in the new block. -/
theorem run_append_where {P : Program} {w : World} (base : Nat) (t ty e : TypeId) (i : TypeInfo) (z : Value) (ht : P.underlying t = some (.slice e)) (hi : P.info? e = some i) (hz : i.zero = some z)
    (v : Value) (n : Nat) (xs : List Value) (hown : w.ownsRow base e i.size v n xs)
    (a : Addr) (m c : Nat) (news : List Value) (hl : news.length = m * i.size) (hnews : ∀ j u, news[j]? = some u → w.cell? (a.add j) = some u) (h1 : ∀ u ∈ news, u.oneCell' = true)
    (h63 : n + m ≤ 9223372036854775807) (hbytes : (n + m) * i.bytes ≤ 140737488355328) (v' : Value) (w' : World)
    (hr : (Builtin.append_ #[t, t] ty #[v, .slice (some a) m c]).run P w = .ok v' w') : v'.ownBlock = v.ownBlock ∨ v'.ownBlock = some w.heap.size := by
  have hcells := fun g => hown.cells (g := g)
  obtain ⟨hx, ⟨rfl, rfl⟩ | ⟨g, cap, cur, rfl, hbg, hg, hnc, hcm, hcs, htake⟩⟩ := hown
  · by_cases hm : m = 0
    · subst hm
      have hn : news = [] := List.eq_nil_of_length_eq_zero (by simpa using hl)
      subst hn
      have h0 : (Builtin.append_ #[t, t] ty #[.slice none 0 0, .slice (some a) 0 c]).run P w = .ok (.slice none 0 0) w := by
        simp [Builtin.append_, run_underlying ht, sizeOf, typeInfo, hi, Builtin.lenOf, Builtin.firstCells, loadCells, loadCellsFrom]
      rw [h0] at hr
      cases hr
      exact .inl rfl
    · have h0 := run_append_nil (P := P) w t ty e i z ht hi hz a m c news hl hnews (by omega) (by omega) (by have hb := hbytes; simp only [Nat.zero_add] at hb; omega)
      rw [h0] at hr
      cases hr
      exact .inr rfl
  · by_cases hroom : n + m ≤ cap
    · have hfit : n * i.size + news.length ≤ cur.size := by rw [hl, hcs, ← Nat.add_mul]; exact Nat.mul_le_mul_right _ hroom
      have h0 := run_append_room (P := P) w t ty e i ht hi g n cap cur hg a m c news hl hnews h1 hroom hfit
      rw [h0] at hr
      cases hr
      exact .inl rfl
    · have h0 := run_append_grow (P := P) w t ty e i z ht hi hz ⟨g, 0, none⟩ n cap xs hx (hcells g rfl) a m c news hl hnews (by omega) (by omega) (growslice_fits (by omega) hbytes)
      rw [h0] at hr
      cases hr
      exact .inr rfl

theorem wpList_append_src {P : Program} {w : World} {ops : Array Oper} {rest : List Oper} {o : Oper} {a : Act} {Q : Exit → Act → World → Prop} (hgd : o.guard = none) (s x : Operand) (t : TypeId)
    (ho : o.op = .call { callee := .builtin .append, args := #[s, x], argTypes := #[t, t] })
    (base : Nat) (e : TypeId) (z : Value) (size bytes : Nat) (ht : P.underlying t = some (.slice e)) (hinfo : (P.info? e).map (fun i => (i.zero, i.size, i.bytes)) = some (some z, size, bytes))
    (hzs : z.cells.size = size) (hsz : 0 < size)
    (v : Value) (n : Nat) (xs : List Value) (hs : a.eval s = v) (hown : w.ownsRow base e size v n xs)
    (sv : Value) (m : Nat) (news : List Value) (hx : a.eval x = sv) (hsrc : SrcAt w sv m news) (hl : news.length = m * size) (h1 : ∀ u ∈ news, u.oneCell' = true)
    (hbytes : (n + m) * bytes ≤ 140737488355328) (h63 : n + m ≤ 9223372036854775807) (hbase : base ≤ w.heap.size)
    (h : ∀ v' w', Hid (w'.ownsRow base e size v' (n + m) (xs ++ news)) → Hid (w.grownBy w' v.ownBlock) → Hid (v'.ownBlock = v.ownBlock ∨ v'.ownBlock = some w.heap.size) → wpList P ops Q rest (a.put o.dst v') w') : wpList P ops Q (o :: rest) a w := by
  obtain ⟨i, hi, hz, hsz', hby⟩ := info_parts hinfo
  have hsrc' : (sv = .slice none 0 0 ∧ m = 0 ∧ news = []) ∨ ∃ ad c, sv = .slice (some ad) m c ∧ ∀ j u, news[j]? = some u → w.cell? (Addr.add ad j) = some u := by
    rcases hsrc with h | ⟨b, off, c, h, hrow⟩ | ⟨ad, c, h, h0⟩
    · exact .inl h
    · exact .inr ⟨⟨b, off, none⟩, c, h, fun j u hu => by rw [Addr.add_lit]; exact hrow j u hu⟩
    · exact .inr ⟨ad, c, h, fun j u hu => by rw [h0] at hu; simp at hu⟩
  rcases hsrc' with ⟨rfl, rfl, rfl⟩ | ⟨ad, c, rfl, hnews⟩
  · refine wpList_append_own_none hgd s x t ho base e i size ht hi v n xs hs hown hx ?_
    refine h v w (by show World.ownsRow _ _ _ _ _ _ _; simpa using hown) ⟨rfl, rfl, rfl, Nat.le_refl _, fun _ _ _ => rfl⟩ ?_
    exact .inl rfl
  · subst hsz'
    subst hby
    obtain ⟨v', w', hr, h2, h3, h4⟩ := run_append_own (P := P) w base t o.type e i z i.size i.bytes ht hi hz rfl rfl hzs hsz v n xs hown ad m c news hl hnews h1 (by simp only [maxLen]; omega) hbytes hbase
    have h5 := run_append_where base t o.type e i z ht hi hz v n xs hown ad m c news hl hnews h1 h63 hbytes v' w' hr
    refine wpList_plain hgd fun K hK => ?_
    unfold Oper.wp
    simp [execOp, ho, resolve, invoke, builtin, hs, hx, hr, Result.andThen]
    exact hK _ _ (h v' w' h2 h3 h5)

theorem ints_one (l : List Int) : ∀ u ∈ ints l, u.oneCell' = true := by
  intro v hv; simp [ints] at hv; obtain ⟨x, _, rfl⟩ := hv; rfl
theorem flat_one (l : List Ins) : ∀ u ∈ flat l, u.oneCell' = true := by
  intro v hv; simp [flat, cells4] at hv; obtain ⟨x, _, rfl | rfl | rfl | rfl⟩ := hv <;> rfl

/-- Out of what is owned: how it lies. -/
theorem owns_row {w : World} {base : Nat} {e : TypeId} {size : Nat} {v : Value} {n : Nat} {xs : List Value} (h : w.ownsRow base e size v n xs) :
    (v = .slice none 0 0 ∧ n = 0 ∧ xs = []) ∨ ∃ g cap, v = .slice (some ⟨g, 0, none⟩) n cap ∧ base ≤ g ∧ g < w.heap.size ∧ RowAt w g 0 xs := by
  obtain ⟨hx, ⟨rfl, rfl⟩ | ⟨g, cap, cur, rfl, hb, hg, rest⟩⟩ := h
  · exact .inl ⟨rfl, rfl, List.eq_nil_of_length_eq_zero (by simpa using hx)⟩
  · refine .inr ⟨g, cap, rfl, hb, (Array.getElem?_eq_some_iff.1 hg).1, ?_⟩
    have hown : w.ownsRow base e size (.slice (some ⟨g, 0, none⟩) n cap) n xs := ⟨hx, .inr ⟨g, cap, cur, rfl, hb, hg, rest⟩⟩
    intro j u hu
    have := hown.cells (g := g) rfl j u hu
    rwa [Addr.add_lit] at this
theorem owns_code {w : World} {base : Nat} {e : TypeId} {v : Value} {l : List Ins} (h : w.ownsRow base e 4 v l.length (flat l)) (hl : l.length ≤ 4398046511104) :
    CodeIn (fun b => base ≤ b ∧ b < w.heap.size) w v l := by
  rcases owns_row h with ⟨rfl, h0, _⟩ | ⟨g, cap, rfl, h1, h2, h3⟩
  · exact ⟨hl, .inl ⟨rfl, List.eq_nil_of_length_eq_zero h0⟩⟩
  · exact ⟨hl, .inr ⟨g, 0, cap, rfl, ⟨h1, h2⟩, h3.code⟩⟩
theorem owns_ints {w : World} {base : Nat} {e : TypeId} {v : Value} {l : List Int} (h : w.ownsRow base e 1 v l.length (ints l)) (hl : l.length ≤ 17592186044416) :
    IntsIn (fun b => base ≤ b ∧ b < w.heap.size) w v l := by
  rcases owns_row h with ⟨rfl, h0, _⟩ | ⟨g, cap, rfl, h1, h2, h3⟩
  · exact ⟨hl, .inl ⟨rfl, List.eq_nil_of_length_eq_zero h0⟩⟩
  · exact ⟨hl, .inr ⟨g, 0, cap, rfl, ⟨h1, h2⟩, h3⟩⟩
end Go.Proofs.Ytndlmgocldckfaa
