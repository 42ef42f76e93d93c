import Derived.Test.YtndlmgocldckfaaGreatAaZ
namespace Go.Proofs.YtndlmgocldckfaaGreat
open Go.RowKit
set_option linter.unusedVariables false
set_option linter.unusedSimpArgs false

/-! Records, as they are and as they lie. -/

structure Rec where
  e : Ev
  told : List Int

theorem Tryz.infoR : (Tryz.prog.info? 46).map (fun i => (i.zero, i.size, i.bytes)) = some (some (.agg #[.int .i64 0, .int .i64 0, .int .i64 0, .int .i64 0, .slice none 0 0]), 5, 56) := by kernel_rfl

/-- A record as it lies. -/
structure RecC where
  e : Ev
  sa : Option Addr
  n : Nat
  sc : Nat
def RecC.v (x : RecC) : Value := .agg #[.int .i64 x.e.number, .int .i64 x.e.time, .int .i64 x.e.kind, .int .i64 x.e.entity, .slice x.sa x.n x.sc]
def RecC.cells (x : RecC) : List Value := [.int .i64 x.e.number, .int .i64 x.e.time, .int .i64 x.e.kind, .int .i64 x.e.entity, .slice x.sa x.n x.sc]
def recCells (l : List RecC) : List Value := l.flatMap RecC.cells

theorem recCells_get : ∀ (l : List RecC) (i r : Nat), r < 5 → (recCells l)[i * 5 + r]? = l[i]?.bind fun x => (x.cells)[r]?
  | [], i, r, _ => by simp [recCells]
  | x :: l, 0, r, h => by
    have : r = 0 ∨ r = 1 ∨ r = 2 ∨ r = 3 ∨ r = 4 := by omega
    rcases this with rfl | rfl | rfl | rfl | rfl <;> simp [recCells, RecC.cells]
  | x :: l, i + 1, r, h => by
    have ih := recCells_get l i r h
    have e : (i + 1) * 5 + r = (i * 5 + r) + 1 + 1 + 1 + 1 + 1 := by omega
    rw [e]
    simpa [recCells, RecC.cells] using ih

theorem recCells_length (l : List RecC) : (recCells l).length = l.length * 5 := by
  induction l with
  | nil => rfl
  | cons x l ih => simp [recCells, RecC.cells] at ih ⊢; omega

/-- Numbers that were told, as they lie. -/
def ToldIn (w : World) (sa : Option Addr) (l : List Int) : Prop := ∀ (k : Nat) t, l[k]? = some t → ∃ g o, sa = some ⟨g, o, none⟩ ∧ w.cell? ⟨g, o + k, none⟩ = some (.int .i64 t)
/-- Records as they lie, from an address on. -/
def RecIn (w : World) (a : Option Addr) (rs : List Rec) : Prop := ∀ (i : Nat) r, rs[i]? = some r → ∃ b off sa sc, a = some ⟨b, off, none⟩ ∧ w.cell? ⟨b, off + i * 5, none⟩ = some (.int .i64 r.e.number) ∧ w.cell? ⟨b, off + i * 5 + 1, none⟩ = some (.int .i64 r.e.time) ∧ w.cell? ⟨b, off + i * 5 + 2, none⟩ = some (.int .i64 r.e.kind) ∧ w.cell? ⟨b, off + i * 5 + 3, none⟩ = some (.int .i64 r.e.entity) ∧
    w.cell? ⟨b, off + i * 5 + 4, none⟩ = some (.slice sa r.told.length sc) ∧ ToldIn w sa r.told

theorem ToldIn.below {w w' : World} {sa : Option Addr} {l : List Int} (h : ToldIn w sa l) (hb : Below w.heap.size w w') : ToldIn w' sa l := by
  intro k t ht
  obtain ⟨g, o, h1, h2⟩ := h k t ht
  exact ⟨g, o, h1, below_at hb h2 (lt_of_cell h2)⟩
theorem RecIn.below {w w' : World} {a : Option Addr} {rs : List Rec} (h : RecIn w a rs) (hb : Below w.heap.size w w') : RecIn w' a rs := by
  intro i r hr
  obtain ⟨b, off, sa, sc, h0, c0, c1, c2, c3, c4, ct⟩ := h i r hr
  exact ⟨b, off, sa, sc, h0, below_at hb c0 (lt_of_cell c0), below_at hb c1 (lt_of_cell c1), below_at hb c2 (lt_of_cell c2), below_at hb c3 (lt_of_cell c3), below_at hb c4 (lt_of_cell c4), ct.below hb⟩

/-! May they be written? -/
def valsF (l : List Int) : Bool := l.all fun n => inB n (-1000000000) 1000000000
def recOkF (ahead : Int) (r : Rec) : Bool := inB r.e.number 0 1000000000 && (inB r.e.time ahead 1000000000000 && (inB r.e.kind 0 7 && (inB r.e.entity 0 7 && (decide (r.told.length ≤ 16) && valsF r.told))))
def recsOkF : Int → List Rec → Bool
  | _, [] => true
  | ahead, r :: rs => recOkF ahead r && recsOkF r.e.time rs
def areF (rs : List Rec) : Bool := decide (rs.length ≤ 1000) && recsOkF 0 rs
end Go.Proofs.YtndlmgocldckfaaGreat
