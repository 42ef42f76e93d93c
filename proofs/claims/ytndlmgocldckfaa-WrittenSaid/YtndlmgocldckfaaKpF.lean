import Derived.Test.YtndlmgocldckfaaKpE
namespace Go.Proofs.Ytndlmgocldckfaa
open Go.RowKit
set_option linter.unusedVariables false
set_option linter.unusedSimpArgs false

/-! tempokeep's model: as it is made. -/

theorem Only.ofGrown {w w' : World} {row : Option Nat} (h : w.grownBy w' row) : Only (fun b => some b = row) w w' := ⟨h.os, h.tape, h.output, h.size, fun k hk hn => h.block k hk hn⟩

def MdI (mb : Nat) (wr : World) (kv : Value) (b : Nat) : Prop := mb < b ∧ b < wr.heap.size ∧ some b ≠ kv.ownBlock

structure MdR (w wr : World) (rb mb : Nat) (sa : Option Addr) (sc : Nat) (L : List Int) (ents : Int) (kv : Value) (done : List (List Ins)) (J : Nat) : Prop where
  only : Only (· = rb) w wr
  raw : RawP wr rb sa sc L J
  rlt : rb < mb
  slt : ∀ b off, sa = some ⟨b, off, none⟩ → L ≠ [] → b < mb
  wlt : w.heap.size ≤ mb
  c0 : wr.cell? ⟨mb, 0, none⟩ = some (.int .i64 ents)
  c1 : wr.cell? ⟨mb, 1, none⟩ = some kv
  room : Room wr mb 2
  row : ∃ vals, wr.ownsRow (mb + 1) 80 1 kv done.length vals ∧ ∀ (j : Nat) l, done[j]? = some l → ∃ v, vals[j]? = some v ∧ CodeIn (MdI mb wr kv) wr v l

theorem MdR.klt {w wr : World} {rb mb : Nat} {sa : Option Addr} {sc : Nat} {L : List Int} {ents : Int} {kv : Value} {done : List (List Ins)} {J : Nat} (h : MdR w wr rb mb sa sc L ents kv done J) : ∀ b, some b = kv.ownBlock → mb < b ∧ b < wr.heap.size := by
  intro b hb
  obtain ⟨vals, h1, _⟩ := h.row
  have := h1.lt b hb.symm
  omega

/-- One kind more. -/
theorem MdR.step {w wr wi w2 : World} {rb mb : Nat} {sa : Option Addr} {sc : Nat} {L : List Int} {ents : Int} {kv kv' lv : Value} {done : List (List Ins)} {J J' : Nat} {code : List Ins} {vals : List Value} (h : MdR w wr rb mb sa sc L ents kv done J)
    (ho : Only (· = rb) wr wi) (hr : RawP wi rb sa sc L J') (hc : CodeIn (fun b => wr.heap.size ≤ b ∧ b < wi.heap.size) wi lv code)
    (hv : ∀ (j : Nat) l, done[j]? = some l → ∃ v, vals[j]? = some v ∧ CodeIn (MdI mb wr kv) wr v l) (hlen : vals.length = done.length)
    (hg : wi.grownBy w2 kv.ownBlock) (hown : w2.ownsRow (mb + 1) 80 1 kv' (done.length + 1) (vals ++ [lv])) (hwh : kv'.ownBlock = kv.ownBlock ∨ kv'.ownBlock = some wi.heap.size) :
    MdR w (w2.setCell ⟨mb, 1, none⟩ kv') rb mb sa sc L ents kv' (done ++ [code]) J' := by
  have hk := h.klt
  have hml := lt_of_cell h.c0
  have hz := ho.size
  have hne : ¬ mb = rb := by have := h.rlt; omega
  have ho2 : Only (fun b => some b = kv.ownBlock) wi w2 := Only.ofGrown hg
  have hz2 := ho2.size
  have hs3 : (w2.setCell ⟨mb, 1, none⟩ kv').heap.size = w2.heap.size := by simp [World.setCell]
  have hmk : ¬ some mb = kv.ownBlock := fun hc => by have := (hk mb hc).1; omega
  have hmk' : ¬ some mb = kv'.ownBlock := by
    rcases hwh with e | e
    · rw [e]; exact hmk
    · rw [e]; intro hc; simp at hc; omega
  have hrk : ¬ some rb = kv.ownBlock := fun hc => by have := (hk rb hc).1; have := h.rlt; omega
  have room2 : Room w2 mb 2 := (h.room.only ho hne).only ho2 hmk
  have ho3 : Only (· = mb) w2 (w2.setCell ⟨mb, 1, none⟩ kv') := Only.setCell (S := (· = mb)) (Only.refl _ _) (p := ⟨mb, 1, none⟩) rfl _
  have hO : Only (fun b => b = rb ∨ some b = kv.ownBlock ∨ b = mb) wr (w2.setCell ⟨mb, 1, none⟩ kv') := (ho.mono (by intro k _ hk; exact .inl hk)).trans ((ho2.mono (by intro k _ hk; exact .inr (.inl hk))).trans (ho3.mono (by intro k _ hk; exact .inr (.inr hk))))
  refine ⟨?_, ?_, h.rlt, h.slt, h.wlt, ?_, ?_, room2.setCell _ _, vals ++ [lv], ?_, ?_⟩
  · refine (h.only.mono (S' := fun b => b = rb ∨ some b = kv.ownBlock ∨ b = mb) (by intro k _ hk; exact .inl hk)).trans hO |>.mono ?_
    rintro k hkw (hc | hc | hc)
    · exact hc
    · have := (hk k hc).1; have := h.wlt; omega
    · have := h.wlt; omega
  · refine (hr.only ho2 hrk (fun b off hs hl hc => by have := (hk b hc).1; have := h.slt b off hs hl; omega)).only ho3 (by have := h.rlt; omega) (fun b off hs hl hc => by have := h.slt b off hs hl; omega)
  · rw [World.cell?_setCell_other _ _ _ _ (by simp)]
    exact ho2.at (ho.at h.c0 hne) hmk
  · exact World.cell?_setCell_same' _ _ _ (room2 1 (by omega)).1
  · rw [List.length_append]
    exact owns_only hown ho3 (fun b hb hc => hmk' (by rw [← hc]; exact hb))
  · intro j l hl
    rcases Nat.lt_trichotomy j done.length with hj | hj | hj
    · rw [List.getElem?_append_left hj] at hl
      obtain ⟨v, hv1, hv2⟩ := hv j l hl
      refine ⟨v, by rw [List.getElem?_append_left (by omega)]; exact hv1, ?_⟩
      refine (hv2.only hO ?_).mono ?_
      · rintro b ⟨b1, b2, b3⟩ (hc | hc | hc)
        · have := h.rlt; omega
        · exact b3 hc
        · omega
      · rintro b ⟨b1, b2, b3⟩
        refine ⟨b1, by rw [hs3]; omega, ?_⟩
        rcases hwh with e | e
        · rw [e]; exact b3
        · rw [e]; intro hc; simp at hc; omega
    · subst hj
      simp at hl
      subst hl
      refine ⟨lv, by rw [← hlen]; simp, ?_⟩
      refine ((hc.only ho2 ?_).only ho3 ?_).mono ?_
      · rintro b ⟨b1, b2⟩ hc; have := (hk b hc).2; omega
      · rintro b ⟨b1, b2⟩ hc; omega
      · rintro b ⟨b1, b2⟩
        refine ⟨by omega, by rw [hs3]; omega, ?_⟩
        rcases hwh with e | e
        · rw [e]; intro hc; have := (hk b hc).2; omega
        · rw [e]; intro hc; simp at hc; omega
    · rw [List.getElem?_eq_none (by simp; omega)] at hl; cases hl
end Go.Proofs.Ytndlmgocldckfaa
