import Derived.Test.YtndlmgocldckfaaBase
namespace Go.Proofs.Ytndlmgocldckfaa
open Go.RowKit
set_option linter.unusedVariables false
set_option linter.unusedSimpArgs false

/-! How the data lie in memory, said of cells. -/

structure Ins where
  op : Int
  a : Int
  b : Int
  c : Int

/-- A row of instructions lies from cell 'off' of block b on. -/
def CodeAt (w : World) (b off : Nat) (l : List Ins) : Prop :=
  ∀ i x, l[i]? = some x → w.cell? ⟨b, off + i * 4, none⟩ = some (.int .i64 x.op) ∧ w.cell? ⟨b, off + i * 4 + 1, none⟩ = some (.int .i64 x.a) ∧
    w.cell? ⟨b, off + i * 4 + 2, none⟩ = some (.int .i64 x.b) ∧ w.cell? ⟨b, off + i * 4 + 3, none⟩ = some (.int .i64 x.c)

/-- A value that is a slice of instructions, below block B. -/
def CodeV (B : Nat) (w : World) (v : Value) (l : List Ins) : Prop :=
  l.length ≤ 4398046511104 ∧ ((v = .slice none 0 0 ∧ l = []) ∨ (∃ b off cap, v = .slice (some ⟨b, off, none⟩) l.length cap ∧ b < B ∧ CodeAt w b off l) ∨ ∃ a cap, v = .slice (some a) 0 cap ∧ l = [])

theorem bcell {W w1 : World} (hb : Below W.heap.size W w1) : (∀ b o, b < W.heap.size → w1.cell? ⟨b, o, none⟩ = W.cell? ⟨b, o, none⟩) ∧ (∀ b o, b < W.heap.size → w1.frozen? ⟨b, o, none⟩ = W.frozen? ⟨b, o, none⟩) :=
  ⟨fun b o h => hb.cell (p := ⟨b, o, none⟩) h, fun b o h => hb.frozen (p := ⟨b, o, none⟩) h⟩

theorem below_at {B : Nat} {w w' : World} (h : Below B w w') {b o : Nat} {v : Value} (hc : w.cell? ⟨b, o, none⟩ = some v) (hb : b < B) : w'.cell? ⟨b, o, none⟩ = some v := (h.cell (p := ⟨b, o, none⟩) hb).trans hc

theorem hide {p : Prop} (h : p) : Hid p := h

theorem CodeAt.below {B : Nat} {w w' : World} {b off : Nat} {l : List Ins} (h : CodeAt w b off l) (hb : Below B w w') (hB : b < B) : CodeAt w' b off l := by
  intro i x hx
  obtain ⟨h1, h2, h3, h4⟩ := h i x hx
  exact ⟨(hb.cell (p := ⟨b, _, none⟩) hB).trans h1, (hb.cell (p := ⟨b, _, none⟩) hB).trans h2, (hb.cell (p := ⟨b, _, none⟩) hB).trans h3, (hb.cell (p := ⟨b, _, none⟩) hB).trans h4⟩

theorem CodeV.below {B : Nat} {w w' : World} {v : Value} {l : List Ins} (h : CodeV B w v l) (hb : Below B w w') : CodeV B w' v l := by
  obtain ⟨hl, h | ⟨b, off, cap, rfl, hB, hc⟩ | h⟩ := h
  · exact ⟨hl, .inl h⟩
  · exact ⟨hl, .inr (.inl ⟨b, off, cap, rfl, hB, hc.below hb hB⟩)⟩
  · exact ⟨hl, .inr (.inr h)⟩

theorem CodeV.mono {B B' : Nat} {w : World} {v : Value} {l : List Ins} (h : CodeV B w v l) (hB : B ≤ B') : CodeV B' w v l := by
  obtain ⟨hl, h | ⟨b, off, cap, rfl, hb, hc⟩ | h⟩ := h
  · exact ⟨hl, .inl h⟩
  · exact ⟨hl, .inr (.inl ⟨b, off, cap, rfl, by omega, hc⟩)⟩
  · exact ⟨hl, .inr (.inr h)⟩

/-- A row of slices of instructions lies from cell 'off' of block b on. -/
def KindsAt (B : Nat) (w : World) (b off : Nat) (ks : List (List Ins)) : Prop :=
  ∀ i l, ks[i]? = some l → ∃ v, w.cell? ⟨b, off + i, none⟩ = some v ∧ CodeV B w v l

/-- A value that is a slice of slices of instructions, below block B. -/
def KindsV (B : Nat) (w : World) (v : Value) (ks : List (List Ins)) : Prop :=
  ks.length ≤ 5864062014805 ∧ ((v = .slice none 0 0 ∧ ks = []) ∨ (∃ b off cap, v = .slice (some ⟨b, off, none⟩) ks.length cap ∧ b < B ∧ KindsAt B w b off ks) ∨ ∃ a cap, v = .slice (some a) 0 cap ∧ ks = [])

theorem KindsAt.below {B B' : Nat} {w w' : World} {b off : Nat} {ks : List (List Ins)} (h : KindsAt B w b off ks) (hb : Below B' w w') (hB : b < B') (hB' : B ≤ B') : KindsAt B w' b off ks := by
  intro i l hl
  obtain ⟨v, hc, hv⟩ := h i l hl
  exact ⟨v, (hb.cell (p := ⟨b, _, none⟩) hB).trans hc, hv.below (hb.mono hB')⟩

theorem KindsAt.mono {B B' : Nat} {w : World} {b off : Nat} {ks : List (List Ins)} (h : KindsAt B w b off ks) (hB : B ≤ B') : KindsAt B' w b off ks := by
  intro i l hl
  obtain ⟨v, hc, hv⟩ := h i l hl
  exact ⟨v, hc, hv.mono hB⟩

theorem KindsV.below {B : Nat} {w w' : World} {v : Value} {ks : List (List Ins)} (h : KindsV B w v ks) (hb : Below B w w') : KindsV B w' v ks := by
  obtain ⟨hl, h | ⟨b, off, cap, rfl, hB, hc⟩ | h⟩ := h
  · exact ⟨hl, .inl h⟩
  · exact ⟨hl, .inr (.inl ⟨b, off, cap, rfl, hB, hc.below hb hB (Nat.le_refl _)⟩)⟩
  · exact ⟨hl, .inr (.inr h)⟩

theorem KindsV.mono {B B' : Nat} {w : World} {v : Value} {ks : List (List Ins)} (h : KindsV B w v ks) (hB : B ≤ B') : KindsV B' w v ks := by
  obtain ⟨hl, h | ⟨b, off, cap, rfl, hb, hc⟩ | h⟩ := h
  · exact ⟨hl, .inl h⟩
  · exact ⟨hl, .inr (.inl ⟨b, off, cap, rfl, by omega, hc.mono hB⟩)⟩
  · exact ⟨hl, .inr (.inr h)⟩

/-- The first instruction from place i on that may not be. -/
def firstBad (ents : Int) (nk : Nat) : List Ins → Nat → Option Nat
  | [], _ => none
  | x :: l, i => if mayF ents nk x.op x.a x.b x.c then firstBad ents nk l (i + 1) else some i

def codeF (ents : Int) (nk : Nat) (l : List Ins) : Option Nat := if 16 < l.length then some 0 else firstBad ents nk l 0

theorem firstBad_drop {ents : Int} {nk : Nat} {l : List Ins} {n : Nat} (h : n < l.length) :
    firstBad ents nk (l.drop n) n = if mayF ents nk l[n].op l[n].a l[n].b l[n].c then firstBad ents nk (l.drop (n + 1)) (n + 1) else some n := by
  rw [List.drop_eq_getElem_cons h, firstBad]

/-- The first kind from i on in which something may not be, and its place. -/
def firstKind (ents : Int) (nk : Nat) : List (List Ins) → Nat → Option (Nat × Nat)
  | [], _ => none
  | l :: ks, i => match codeF ents nk l with
    | none => firstKind ents nk ks (i + 1)
    | some p => some (i, p)

theorem firstKind_drop {ents : Int} {nk : Nat} {ks : List (List Ins)} {n : Nat} (h : n < ks.length) :
    firstKind ents nk (ks.drop n) n = match codeF ents nk ks[n] with
      | none => firstKind ents nk (ks.drop (n + 1)) (n + 1)
      | some p => some (n, p) := by
  rw [List.drop_eq_getElem_cons h, firstKind]

def kindF (ents : Int) (ks : List (List Ins)) : Option (Nat × Nat) :=
  if !inB ents 1 8 || !inB ks.length 1 8 then some (0, 0) else firstKind ents ks.length ks 0

/-- What Check answers. -/
def checkV (ents : Int) (ks : List (List Ins)) : Value :=
  match kindF ents ks with
  | none => .tuple #[.int .i64 0, .int .i64 0, .int .i64 0]
  | some (k, p) => .tuple #[.int .i64 2, .int .i64 k, .int .i64 p]

def checkE (ents : Int) (ks : List (List Ins)) : Int := if (kindF ents ks).isNone then 0 else 2
def checkK (ents : Int) (ks : List (List Ins)) : Int := (((kindF ents ks).map (·.1)).getD 0 : Nat)
def checkP (ents : Int) (ks : List (List Ins)) : Int := (((kindF ents ks).map (·.2)).getD 0 : Nat)
theorem checkV_eq (ents : Int) (ks : List (List Ins)) : checkV ents ks = .tuple #[.int .i64 (checkE ents ks), .int .i64 (checkK ents ks), .int .i64 (checkP ents ks)] := by
  unfold checkV checkE checkK checkP
  rcases kindF ents ks with _ | ⟨k, p⟩ <;> simp

end Go.Proofs.Ytndlmgocldckfaa
