import Derived.Test.YtndlmgocldckfaaGreatG07
import Derived.Test.YtndlmgocldckfaaGreatG08
import Derived.Test.YtndlmgocldckfaaGreatG03
import Derived.Deep.RegionHeld3
import Derived.Test.YtndlmgocldckfaaGreatG05
namespace Go.Proofs.YtndlmgocldckfaaGreat
open Go.RowKit
set_option linter.unusedVariables false
set_option linter.unusedSimpArgs false
set_option maxRecDepth 100000
set_option maxHeartbeats 4000000
structure Pair where
 kb : Nat
 qb : Nat
 mb : Nat
 rb : Nat
 kbs : Nat
 ov : Value
 ents : Int
 ks : List (List Ins)
 draws : List Int
 s : KS
 kR : Nat → Prop
 rR : Nat → Prop
def Pair.has (p : Pair) (b : Nat) : Prop := KSet p.kb p.qb p.mb p.ov b ∨ b = p.rb
def Pair.own (p : Pair) (b : Nat) : Prop := p.has b ∨ p.kR b ∨ p.rR b
def regL (ents : Int) (s : KS) : List Int := (List.range (ents * 4).toNat).map s.regs
structure PairOK (w : World) (p : Pair) : Prop where
 ker : KerP p.kR p.kbs w p.kb p.qb p.mb p.ov p.ents p.ks p.draws p.s
 ref : RefK p.rR w p.rb p.ents p.ks p.draws p.s.taken p.s.clock p.s.next (regL p.ents p.s) p.s.q
 fit : Fit p.ents p.ks p.draws p.s
 regz : RegZ p.ents p.s
 kind : kindF p.ents p.ks = none
 draw : drawsF p.draws = true
 kbs : p.kbs ≤ w.heap.size
 rlt : p.rb < w.heap.size
 sepr : ∀ b, p.rR b → b < w.heap.size ∧ b ≠ p.rb ∧ ¬ KSet p.kb p.qb p.mb p.ov b
 sepk : ∀ b, p.kR b → b ≠ p.rb
 sep : ¬ KSet p.kb p.qb p.mb p.ov p.rb
theorem PairOK.lt {w : World} {p : Pair} (h : PairOK w p) : ∀ b, p.own b → b < w.heap.size := by
 rintro b ((hb | rfl) | hb | hb)
 ·exact h.ker.lt b hb
 ·exact h.rlt
 ·exact h.ker.rlt b hb
 ·exact (h.sepr b hb).1
theorem PairOK.only {S : Nat → Prop} {w w' : World} {p : Pair} (h : PairOK w p) (ho : Only S w w') (hS : ∀ b, p.own b → ¬ S b) : PairOK w' p := by
 have hz := ho.size
 exact ⟨h.ker.only ho (fun b hb => hS b (.inl (.inl hb))) (fun b hb => hS b (.inr (.inl hb))), h.ref.only ho (fun b hb => hS b (.inr (.inr hb))) (hS _ (.inl (.inr rfl))), h.fit, h.regz, h.kind, h.draw, Nat.le_trans h.kbs hz, Nat.lt_of_lt_of_le h.rlt hz, fun b hb => ⟨Nat.lt_of_lt_of_le (h.sepr b hb).1 hz, (h.sepr b hb).2⟩, h.sepk, h.sep⟩
structure BookD where
 bv : Value
 iv : Value
 rv : Value
 bs : Nat → Prop
 ok : World → Prop
def BookD.stable (bk : BookD) : Prop := ∀ (w w' : World) (S : Nat → Prop), bk.ok w → Only S w w' → (∀ b, bk.bs b → ¬ S b) → bk.ok w'
def pairCells (p : Pair) : List Value := [.pointer (some ⟨p.kb, 0, none⟩), .pointer (some ⟨p.rb, 0, none⟩)]
def pairsRow (ps : List Pair) : List Value := ps.flatMap pairCells
structure Inv (base : Nat) (w : World) (wb : Nat) (lv : Value) (ps : List Pair) (bk : BookD) : Prop where
 cell : w.cell? ⟨wb, 0, none⟩ = some lv
 book : w.cell? ⟨wb, 1, none⟩ = some bk.bv ∧ w.cell? ⟨wb, 2, none⟩ = some bk.iv ∧ w.cell? ⟨wb, 3, none⟩ = some bk.rv
 room : Room w wb 4
 owns : w.ownsRow base 52 2 lv ps.length (pairsRow ps)
 lne : lv.ownBlock ≠ some wb
 blo : base ≤ wb
 pairs : ∀ p ∈ ps, PairOK w p
 muts : ∀ p ∈ ps, ∀ b, p.own b → base ≤ b ∧ b ≠ wb ∧ some b ≠ lv.ownBlock ∧ ¬ bk.bs b
 apart : ∀ (i j : Nat) p p' b, ps[i]? = some p → ps[j]? = some p' → p.own b → p'.own b → i = j
 bks : ∀ b, bk.bs b → base ≤ b ∧ b < w.heap.size ∧ b ≠ wb ∧ some b ≠ lv.ownBlock
 bok : bk.ok w
 bst : bk.stable
section
variable {base : Nat} {w w' : World} {wb : Nat} {lv : Value} {ps : List Pair} {bk : BookD}
theorem Inv.wlt (h : Inv base w wb lv ps bk) : wb < w.heap.size := lt_of_cell h.cell
theorem Inv.lo (h : Inv base w wb lv ps bk) : base ≤ w.heap.size := Nat.le_trans h.blo (Nat.le_of_lt h.wlt)
def Inv.Set (wb : Nat) (lv : Value) (ps : List Pair) (bk : BookD) (b : Nat) : Prop := b = wb ∨ some b = lv.ownBlock ∨ (∃ p ∈ ps, p.own b) ∨ bk.bs b
theorem Inv.only {S : Nat → Prop} (h : Inv base w wb lv ps bk) (ho : Only S w w') (hS : ∀ b, Inv.Set wb lv ps bk b → ¬ S b) : Inv base w' wb lv ps bk := by
 have hz := ho.size
 have hw := hS wb (.inl rfl)
 refine ⟨ho.at h.cell hw, ⟨ho.at h.book.1 hw, ho.at h.book.2.1 hw, ho.at h.book.2.2 hw⟩, h.room.only ho hw, ?_, h.lne, h.blo, fun p hp => (h.pairs p hp).only ho (fun b hb => hS b (.inr (.inr (.inl ⟨p, hp, hb⟩)))), h.muts, h.apart, ?_, ?_, h.bst⟩
 ·obtain ⟨h1, h2⟩ := h.owns
  refine ⟨h1, ?_⟩
  rcases h2 with h2 | ⟨g, cap, cur, hv, hg', hh, r⟩
  ·exact .inl h2
  ·refine .inr ⟨g, cap, cur, hv, hg', ?_, r⟩
   rw [ho.block g (Array.getElem?_eq_some_iff.1 hh).1 (hS g (.inr (.inl (by rw [hv]; rfl))))]; exact hh
 ·intro b hb
  have := h.bks b hb
  exact ⟨this.1, by omega, this.2.2⟩
 ·exact h.bst w w' S h.bok ho (fun b hb => hS b (.inr (.inr (.inr hb))))
theorem Inv.below (h : Inv base w wb lv ps bk) (hb : Below w.heap.size w w') : Inv base w' wb lv ps bk := h.only (Only.new (S := fun _ => False) hb) (by simp)
theorem Inv.one {w0 w2 : World} {lv2 : Value} {p : Pair} (h : Inv base w0 wb lv ps bk) (hb : Below w0.heap.size w0 w) (hp : PairOK w p) (hm : ∀ b, p.own b → w0.heap.size ≤ b)
  (W : World) (hW : Below w.heap.size w W) (hg : W.grownBy w2 lv.ownBlock) (hown : w2.ownsRow base 52 2 lv2 (ps.length + 1) (pairsRow ps ++ pairCells p)) (hwh : lv2.ownBlock = lv.ownBlock ∨ lv2.ownBlock = some W.heap.size) :
  Inv base (w2.setCell ⟨wb, 0, none⟩ lv2) wb lv2 (ps ++ [p]) bk := by
 have hz0 := hb.size
 have hz1 := hW.size
 have hz2 := hg.size
 have hwb := h.wlt
 have hblo := h.blo
 have hlt : ∀ b, lv.ownBlock = some b → b < w0.heap.size := fun b hb => (h.owns.lt b hb).2
 have ho : Only (fun b => some b = lv.ownBlock) w w2 := (Only.new hW).trans ⟨hg.os, hg.tape, hg.output, hg.size, fun k hk hn => hg.block k hk hn⟩
 have ho0 : Only (fun b => some b = lv.ownBlock) w0 w2 := (Only.new hb).trans ho
 have hs : Only (· = wb) w2 (w2.setCell ⟨wb, 0, none⟩ lv2) := Only.setCell (S := (· = wb)) (Only.refl _ _) rfl _
 have hsz : (w2.setCell ⟨wb, 0, none⟩ lv2).heap.size = w2.heap.size := by simp [World.setCell]
 have hwl : ¬ some wb = lv.ownBlock := fun e => h.lne e.symm
 have hw2 : ∀ b, b < w0.heap.size → some b ≠ lv.ownBlock → some b ≠ lv2.ownBlock := by
  intro b hb1 hb2
  rcases hwh with e | e <;> rw [e]
  ·exact hb2
  ·intro e'; have := Option.some.inj e'; omega
 have hnew : ∀ b, w0.heap.size ≤ b → b < w.heap.size → some b ≠ lv2.ownBlock := by
  intro b hb1 hb2
  rcases hwh with e | e <;> rw [e]
  ·intro e'; have := hlt b e'.symm; omega
  ·intro e'; have := Option.some.inj e'; omega
 have hcell : ∀ i v, i ≠ 0 → w0.cell? ⟨wb, i, none⟩ = some v → (w2.setCell ⟨wb, 0, none⟩ lv2).cell? ⟨wb, i, none⟩ = some v := by
  intro i v hi hv
  rw [World.cell?_setCell_other _ _ _ _ (by simp; try omega)]; exact ho0.at hv hwl
 have hroom : Room w2 wb 4 := h.room.only ho0 hwl
 refine ⟨World.cell?_setCell_same' _ _ _ (hroom 0 (by omega)).1, ⟨hcell 1 _ (by omega) h.book.1, hcell 2 _ (by omega) h.book.2.1, hcell 3 _ (by omega) h.book.2.2⟩, hroom.setCell _ _, ?_, fun e => hw2 wb hwb hwl e.symm, h.blo, ?_, ?_, ?_, ?_, ?_, h.bst⟩
 ·rw [List.length_append, show pairsRow (ps ++ [p]) = pairsRow ps ++ pairCells p by simp [pairsRow]]
  obtain ⟨h1, h2⟩ := hown
  refine ⟨h1, ?_⟩
  rcases h2 with h2 | ⟨g, cap, cur, hv, hg', hh, r⟩
  ·exact .inl h2
  ·refine .inr ⟨g, cap, cur, hv, hg', ?_, r⟩
   rw [Below.heap_setCell _ _ _ _ ?_]; exact hh
   have := hw2 wb hwb hwl
   rw [hv] at this
   simp [Value.ownBlock] at this
   exact Ne.symm this
 ·intro x hx
  rcases List.mem_append.1 hx with h1 | h1
  ·exact ((h.pairs x h1).only ho0 (fun b hb => (h.muts x h1 b hb).2.2.1)).only hs (fun b hb => (h.muts x h1 b hb).2.1)
  ·simp at h1; subst h1
   refine (hp.only ho (fun b hb e => ?_)).only hs (fun b hb => ?_)
   ·have := hlt b e.symm; have := hm b hb; omega
   ·show ¬ b = wb; have := hm b hb; omega
 ·intro x hx b hb
  rcases List.mem_append.1 hx with h1 | h1
  ·have := h.muts x h1 b hb
   exact ⟨this.1, this.2.1, hw2 b ((h.pairs x h1).lt b hb) this.2.2.1, this.2.2.2⟩
  ·simp at h1; subst h1
   have h3 := hm b hb
   have h4 := hp.lt b hb
   exact ⟨by omega, by omega, hnew b h3 h4, fun e => by have := (h.bks b e).2.1; omega⟩
 ·intro i j x y b hi hj hx hy
  have look : ∀ (i : Nat) s, (ps ++ [p])[i]? = some s → (i < ps.length ∧ ps[i]? = some s) ∨ (i = ps.length ∧ s = p) := by
   intro i s hs
   by_cases hi : i < ps.length
   ·rw [List.getElem?_append_left hi] at hs; exact .inl ⟨hi, hs⟩
   ·rw [List.getElem?_append_right (by omega)] at hs
    have : i - ps.length = 0 := by
     have := (List.getElem?_eq_some_iff.1 hs).1
     simp at this; omega
    rw [this] at hs
    simp at hs
    exact .inr ⟨by omega, hs.symm⟩
  rcases look i x hi with ⟨i1, i2⟩ | ⟨i1, rfl⟩ <;> rcases look j y hj with ⟨j1, j2⟩ | ⟨j1, rfl⟩
  ·exact h.apart i j x y b i2 j2 hx hy
  ·have := (h.pairs x (List.mem_of_getElem? i2)).lt b hx
   have := hm b hy; omega
  ·have := (h.pairs y (List.mem_of_getElem? j2)).lt b hy
   have := hm b hx; omega
  ·omega
 ·intro b hb
  rw [hsz]
  have := h.bks b hb
  exact ⟨this.1, by omega, this.2.2.1, hw2 b this.2.1 this.2.2.2⟩
 ·refine h.bst _ _ (· = wb) (h.bst _ _ _ h.bok ho0 (fun b hb => (h.bks b hb).2.2.2)) hs (fun b hb => (h.bks b hb).2.2.1)
end
section
variable {ents : Int} {ks : List (List Ins)} {draws : List Int} {s : KS}
end
theorem regL_length (ents : Int) (s : KS) : (regL ents s).length = (ents * 4).toNat := by simp [regL]
def amongF (l : List Int) (k : Int) : Bool := l.contains k
theorem among_any (b off cap : Nat) (l : List Int) (k : Int) (w : World) (hl : l.length ≤ 1000) (hc : RowAt w b off (ints l)) :
  Calls Tryz.prog 10 #[.slice (some ⟨b, off, none⟩) l.length cap, .int .i64 k] w fun e w' => e = .returned (.bool (amongF l k)) ∧ w' = w := by
 go_enter Tryz.func10, Tryz.ntmps10
 go_wp2
 go_loop [5] (fun i => ∃ j : Nat, j ≤ l.length ∧ i = .int .i64 j ∧ Hid (amongF (l.drop j) k = amongF l k)) (fun i => l.length - (intOf i).toNat)
 case atStart => exact ⟨0, by omega, rfl, rfl⟩
 case round =>
  obtain ⟨j, hj, rfl, hI⟩ := hrel
  by_cases hlt : j < l.length
  ·have hx : w.cell? ⟨b, off + j, none⟩ = some (.int .i64 l[j]) := hc j _ (by simp [ints, hlt])
   have hd : amongF (l.drop j) k = (k == l[j] || amongF (l.drop (j + 1)) k) := by
    rw [List.drop_eq_getElem_cons hlt, amongF, List.contains_cons]; rfl
   by_cases he : l[j] = k
   ·have he' : (l[j] == k) = true := by simpa using he
    have HT : Hid (amongF l k = true) := by show _ = _; rw [← hI.out, hd, he]; simp
    clear hd he
    go_wp2
    go_ret
    exact ⟨by rw [HT.out]; simp, rfl⟩
   ·have he' : (l[j] == k) = false := by simpa using he
    have HN : Hid (amongF (l.drop (j + 1)) k = amongF l k) := by
     show _ = _; rw [← hI.out, hd]
     have : (k == l[j]) = false := by simp; exact fun e => he e.symm
     rw [this]; simp
    clear hd he
    go_wp2
    go_round
    case rel => exact ⟨j + 1, by omega, by go_num, HN⟩
    case measure => simp [intOf]; omega
  ·have HN : Hid (amongF l k = false) := by
    show _ = _; rw [← hI.out, List.drop_of_length_le (by omega)]; rfl
   go_wp2
   go_ret
   exact ⟨by rw [HN.out]; simp, rfl⟩
structure OpD where
 kind : Int
 a : Int
 b : Int
 c : Int
 d : Int
 ents : Int
 kv : Value
 l : Value
 rv : Value
 qv : Value
 sv : Value
 ks : List (List Ins)
 draws : List Int
def opCells (o : OpD) : List Value := [.int .i64 o.kind, .int .i64 o.a, .int .i64 o.b, .int .i64 o.c, .int .i64 o.d, .int .i64 o.ents, o.kv, o.l, o.rv, o.qv, o.sv]
structure OpOK (B : Nat) (w : World) (o : OpD) : Prop where
 kinds : KindsV B w o.kv o.ks
 draws : IntsX B w o.l o.draws
 alo : -9223372036854775808 ≤ o.a
 ahi : o.a ≤ 9223372036854775807
 rform : ∃ a n c, o.rv = .slice a n c
 qform : ∃ a n c, o.qv = .slice a n c
 sform : ∃ s, o.sv = .string s
theorem OpOK.below {B : Nat} {w w' : World} {o : OpD} (h : OpOK B w o) (hb : Below B w w') : OpOK B w' o :=
 ⟨h.kinds.below hb, h.draws.below hb, h.alo, h.ahi, h.rform, h.qform, h.sform⟩
def bookOf (k : BkD) : BookD := ⟨k.bv, k.iv, k.rv, k.set, fun w => BkOK w k⟩
theorem bookOf_stable (k : BkD) : (bookOf k).stable := fun w w' S h ho hS => BkOK.only h ho hS
def bk0 : BkD := ⟨.slice none 0 0, .slice none 0 0, .slice none 0 0, [], [], []⟩
theorem bk0_ents (b : Nat) : ¬ bk0.ents b := by rintro ⟨v, hv, _⟩; simp [bk0] at hv
theorem bk0_set (b : Nat) : ¬ bk0.set b := by
 rintro (hb | hb | hb | hb)
 ·exact bk0_ents b hb
 ·simp [bk0, Value.ownBlock] at hb
 ·simp [bk0, Value.ownBlock] at hb
 ·simp [bk0, Value.ownBlock] at hb
theorem bk0_ok (w : World) : BkOK w bk0 :=
 ⟨World.ownsRow_nil _ _ _ _, World.ownsRow_nil _ _ _ _, World.ownsRow_nil _ _ _ _, by simp [bk0], by simp [bk0], by simp [bk0], fun b hb => absurd hb (bk0_ents b), fun b hb => absurd hb (bk0_ents b), by simp [bk0, Value.ownBlock], by simp [bk0, Value.ownBlock], by simp [bk0, Value.ownBlock], by simp [bk0], by simp [bk0]⟩
theorem inv_start0 (w : World) (T : TypeId) : Inv w.heap.size (w.alloc (.cells #[.slice none 0 0, .slice none 0 0, .slice none 0 0, .slice none 0 0] T)) w.heap.size (.slice none 0 0) [] (bookOf bk0) := by
 refine ⟨by simp [go_sem], ⟨by simp [go_sem, bookOf, bk0], by simp [go_sem, bookOf, bk0], by simp [go_sem, bookOf, bk0]⟩, ?_, World.ownsRow_nil _ _ _ _, by simp [Value.ownBlock], Nat.le_refl _, by simp, by simp, by simp, fun b hb => absurd hb (bk0_set b), bk0_ok _, bookOf_stable _⟩
 intro j hj
 have : j = 0 ∨ j = 1 ∨ j = 2 ∨ j = 3 := by omega
 rcases this with rfl | rfl | rfl | rfl <;> simp [go_sem]
section
variable {base : Nat} {w w' : World} {wb : Nat} {lv : Value} {ps : List Pair} {k k' : BkD}
theorem Inv.bkp (h : Inv base w wb lv ps (bookOf k)) : BkP w wb k := ⟨h.bok, fun hc => (h.bks wb hc).2.2.1 rfl, h.room, h.book.1, h.book.2.1, h.book.2.2⟩
theorem Inv.bookStep {S : Nat → Prop} (h : Inv base w wb lv ps (bookOf k)) (hs : BkStep wb k k' S w w') (hS : ∀ b, S b → base ≤ b ∧ b < w.heap.size ∧ b ≠ wb ∧ some b ≠ lv.ownBlock ∧ ∀ p ∈ ps, ¬ p.own b) : Inv base w' wb lv ps (bookOf k') := by
 have hz := hs.only.size
 have hlo := h.lo
 refine ⟨hs.c0 _ h.cell, ⟨hs.p.c1, hs.p.c2, hs.p.c3⟩, hs.p.room, owns_keep h.owns hs.only ?_, h.lne, h.blo, fun p hp => (h.pairs p hp).only hs.only ?_, ?_, h.apart, ?_, hs.p.ok, bookOf_stable _⟩
 ·rintro b hb (e | e | e)
  ·exact h.lne (by rw [← hb, e])
  ·exact (h.bks b e).2.2.2 hb
  ·exact (hS b e).2.2.2.1 hb
 ·rintro b hb (e | e | e)
  ·exact (h.muts p hp b hb).2.1 e
  ·exact (h.muts p hp b hb).2.2.2 e
  ·exact (hS b e).2.2.2.2 p hp hb
 ·intro p hp b hb
  obtain ⟨m1, m2, m3, m4⟩ := h.muts p hp b hb
  refine ⟨m1, m2, m3, fun hc => ?_⟩
  rcases hs.sub b hc with e | e | e
  ·exact m4 e
  ·exact (hS b e).2.2.2.2 p hp hb
  ·have := (h.pairs p hp).lt b hb; omega
 ·intro b hb
  refine ⟨?_, hs.p.ok.lt b hb, fun e => hs.p.nw (e ▸ hb), ?_⟩
  ·rcases hs.sub b hb with e | e | e
   ·exact (h.bks b e).1
   ·exact (hS b e).1
   ·omega
  ·intro hc
   rcases hs.sub b hb with e | e | e
   ·exact (h.bks b e).2.2.2 hc
   ·exact (hS b e).2.2.2.1 hc
   ·have := (h.owns.lt b hc.symm).2; omega
end
theorem keepsInts_any {Z : Nat} (wb : Nat) (k : BkD) (la : Option Addr) (n lc : Nat) (xs : List Value) (w : World) (h : BkP w wb k) (hl : w.ownsRow Z 3 1 (.slice la n lc) n xs) (hZ : Z ≤ w.heap.size) (hn : n ≤ 1000000) (h4 : k.il.length % 4 = 0) (hlen : k.il.length ≤ 1099511627776) (hls : ∀ b, some b = (Value.slice la n lc).ownBlock → ¬ k.set b ∧ b ≠ wb) :
  Calls Tryz.prog 108 #[.pointer (some ⟨wb, 1, none⟩), .slice la n lc] w fun e w' => e = .returned (.tuple #[]) ∧ ∃ k', BkStep wb k k' (fun b => some b = (Value.slice la n lc).ownBlock) w w' ∧ k'.il.length = k.il.length + 4 ∧ k'.rl = k.rl ∧ k'.bl = k.bl := by
 obtain ⟨K, hK⟩ : ∃ K : BkD, K = k := ⟨_, rfl⟩
 have HK := hide hK
 clear hK
 have hc2 := h.c2
 obtain ⟨ia, ic, hiv⟩ := owns_formK h.ok.iown
 rw [hiv] at hc2
 have H := hide h
 have Hl := hide hl
 have Hiv := hide hiv
 obtain ⟨m, hm⟩ : ∃ m : Int, m = -1000 - ((k.il.length / 4 : Nat) : Int) := ⟨_, rfl⟩
 have Hm := hide hm
 have hwl := h.lt
 clear h hl hiv hm
 go_enter Tryz.func108, Tryz.ntmps108
 go_wp2
 have hme : (-1000 - (k.il.length : Int) / 4) = m := by rw [Hm.out]; omega
 rw [hme]
 clear hme
 go_loopw [5] (fun i wr => ∃ (j : Nat), j ≤ n ∧ i = .int .i64 j ∧ Hid (MarkI w wr Z 3 (.slice la n lc) n [.int .i64 m] j)) (fun i _ => n - (intOf i).toNat)
 case atStart => exact ⟨0, Nat.zero_le _, rfl, Only.refl _ _, ⟨xs, Hl.out⟩, fun g _ i u hu => by simp [reps] at hu⟩
 case round =>
  obtain ⟨j, hj, rfl, hI⟩ := hrel
  by_cases hlt : j < n
  ·have d1 : decide ((j : Int) < (n : Int)) = true := by simp; omega
   have hjj : (j : Int) < (n : Int) := by omega
   have hw : IntKind.i64.wrap ((j : Int) + 1) = (j : Int) + 1 := by rw [IntKind.wrap_i64]; omega
   obtain ⟨ys, hy⟩ := hI.out.own
   obtain ⟨g, rfl, hat⟩ := owns_at hy (by omega)
   obtain ⟨⟨u, hu⟩, hfz⟩ := hat j (by simpa using hlt)
   clear hat hy
   go_wp2_with fail
   go_roundw
   case rel => exact ⟨j + 1, by omega, by go_num, hI.out.next1 hlt⟩
   case measure => simp [intOf]; omega
  ·have d1 : decide ((j : Int) < (n : Int)) = false := by simp; omega
   have hjn : j = n := by omega
   subst hjn
   rename World => wr
   have HO := hide hI.out.out
   have HOn := hide hI.out.only
   clear hI
   have hzr := HOn.out.size
   have HMK : Hid (∀ u ∈ [Value.int .i64 m], u.oneCell' = true) := by intro u hu; simp at hu; subst hu; rfl
   go_wp2_with (at_builtin; refine wpList_append_keep rfl (.tmp 26) (.tmp 28) 24 rfl Z 3 (.int .i64 0) 1 8 Tryz.underlying24 Tryz.info3 rfl (by omega) _ j (reps j [.int .i64 m]) rfl (HO.out.alloc _) wr.heap.size 1 1 (by omega) (reps 1 [.int .i64 m]) rfl (row_new wr _ (reps 1 [.int .i64 m])) (by rw [reps_length]; rfl) (reps_one HMK.out) (by omega) (by omega) (by simp; omega) ?_)
   intro v1 w1 hown1 hg1 hk1
   rw [← reps_add] at hown1
   obtain ⟨va1, vc1, rfl⟩ := owns_formK hown1.out
   have hz1 := hg1.out.size
   simp only [World.size_alloc] at hz1
   go_wp2_with (at_builtin; refine wpList_append_keep rfl (.tmp 30) (.tmp 33) 24 rfl Z 3 (.int .i64 0) 1 8 Tryz.underlying24 Tryz.info3 rfl (by omega) _ j (reps j [.int .i64 m]) rfl (hk1.out.1.alloc _) w1.heap.size 2 2 (by omega) (reps 2 [.int .i64 m]) rfl (row_new w1 _ (reps 2 [.int .i64 m])) (by rw [reps_length]; rfl) (reps_one HMK.out) (by omega) (by omega) (by simp; omega) ?_)
   intro v2 w2 hown2 hg2 hk2
   rw [← reps_add] at hown2
   obtain ⟨va2, vc2, rfl⟩ := owns_formK hown2.out
   have hz2 := hg2.out.size
   simp only [World.size_alloc] at hz2
   go_wp2_with (at_builtin; refine wpList_append_keep rfl (.tmp 35) (.tmp 39) 24 rfl Z 3 (.int .i64 0) 1 8 Tryz.underlying24 Tryz.info3 rfl (by omega) _ j (reps j [.int .i64 m]) rfl (hk2.out.1.alloc _) w2.heap.size 3 3 (by omega) (reps 3 [.int .i64 m]) rfl (row_new w2 _ (reps 3 [.int .i64 m])) (by rw [reps_length]; rfl) (reps_one HMK.out) (by omega) (by omega) (by simp; omega) ?_)
   intro v3 w3 hown3 hg3 hk3
   rw [← reps_add] at hown3
   obtain ⟨va3, vc3, rfl⟩ := owns_formK hown3.out
   have hz3 := hg3.out.size
   simp only [World.size_alloc] at hz3
   have HP0 := hide (pend_start H.out (by omega) hls HOn.out (three_lists (x := [.int .i64 m]) HO.out (alloc_below _ _) hown1.out hg1.out hk1.out (by simp) (alloc_below _ _) hown2.out hg2.out hk2.out (by simp) (alloc_below _ _) hown3.out hg3.out hk3.out (by simp)))
   clear hown1 hg1 hk1 hown2 hg2 hk2 hown3 hg3 hk3 HO HOn H hls Hl hwl
   have hL0 : Hid (k.il.length = K.il.length + 0 ∧ k.rl = K.rl ∧ k.bl = K.bl) := by rw [HK.out]; exact ⟨rfl, rfl, rfl⟩
   have e0 := HP0.out.st.p.c2
   have hw0 := HP0.out.st.p.lt
   have hmk0 : Hid (markI k.il.length = [.int .i64 m]) := by show _ = _; rw [Hm.out]; rfl
   have hlen0 : k.il.length ≤ 1099511627776 + 0 := by have := hL0.out.1; rw [HK.out] at this; omega
   go_wp2_with (at_builtin; refine wpList_append_src rfl (.tmp 45) (.tmp 47) 30 rfl 0 24 (.slice none 0 0) 1 24 Tryz.underlying30 Tryz.infoIs rfl (by omega) _ k.il.length k.il rfl (HP0.out.st.p.ok.iown.alloc _) _ 1 [(.slice la j lc)] rfl (.inr (.inl ⟨w3.heap.size, 0, 1, rfl, row_new w3 _ [(.slice la j lc)]⟩)) rfl (by intro u hu; simp at hu; subst hu; rfl) (by omega) (by omega) (by omega) ?_)
   intro u0 x0 xo0 xg0 xw0
   obtain ⟨f0, z0⟩ := HP0.out.midI (alloc_below _ _) xg0.out
   obtain ⟨ua0, uc0, rfl⟩ := owns_formK xo0.out
   have HQ0 := hide (HP0.out.pushI hmk0.out (alloc_below _ _) xg0.out xo0.out (by simpa using xw0.out))
   obtain ⟨k1, hkn0⟩ : ∃ zz : BkD, zz = { k with iv := .slice ua0 (k.il.length + 1) uc0, il := k.il ++ [(.slice la j lc)] } := ⟨_, rfl⟩
   have hL1 : Hid (k1.il.length = K.il.length + 1 ∧ k1.rl = K.rl ∧ k1.bl = K.bl) := by
    have := hL0.out
    rw [hkn0]
    exact ⟨by simp only [List.length_append, List.length_cons, List.length_nil]; omega, this.2.1, this.2.2⟩
   have hiv1 : Hid (k1.iv = .slice ua0 (k.il.length + 1) uc0) := by show _ = _; rw [hkn0]
   rw [← hkn0] at HQ0
   obtain ⟨y1, hy1⟩ : ∃ y, Hid (y = x0.setCell ⟨wb, 2, none⟩ (.slice ua0 (k.il.length + 1) uc0)) := ⟨_, rfl⟩
   have hsz1 : Hid (y1.heap.size = x0.heap.size) := by show _ = _; rw [hy1.out]; simp [World.setCell]
   have HP1 := HQ0
   rw [← hy1.out] at HP1
   clear hkn0 xo0 xg0 xw0 hmk0 HQ0 HP0 e0
   have hw1 := HP1.out.st.p.lt
   have hmk1 : Hid (markI k1.il.length = [.int .i64 m]) := by show _ = _; have q1 := hL1.out.1; have q2 := h4; rw [← HK.out] at q2; rw [Hm.out, markI, ← HK.out, q1]; congr 3; try omega
   have hlen1 : k1.il.length ≤ 1099511627776 + 1 := by have := hL1.out.1; rw [HK.out] at this; omega
   go_wp2_with (at_builtin; rw [← hy1.out]; refine wpList_append_src rfl (.tmp 55) (.tmp 57) 30 rfl 0 24 (.slice none 0 0) 1 24 Tryz.underlying30 Tryz.infoIs rfl (by omega) _ k1.il.length k1.il rfl ((own_cast hiv1.out HP1.out.st.p.ok.iown).alloc _) _ 1 [(.slice va1 (j + 1) vc1)] rfl (.inr (.inl ⟨x0.heap.size, 0, 1, rfl, sized hsz1.out (row_new y1 _ [(.slice va1 (j + 1) vc1)])⟩)) rfl (by intro u hu; simp at hu; subst hu; rfl) (by omega) (by omega) (by omega) ?_)
   intro u1 x1 xo1 xg1 xw1
   rw [← hiv1.out] at xg1 xw1
   obtain ⟨f1, z1⟩ := HP1.out.midI (alloc_below _ _) xg1.out
   obtain ⟨ua1, uc1, rfl⟩ := owns_formK xo1.out
   have HQ1 := hide (HP1.out.pushI hmk1.out (alloc_below _ _) xg1.out xo1.out (by simpa using xw1.out))
   obtain ⟨k2, hkn1⟩ : ∃ zz : BkD, zz = { k1 with iv := .slice ua1 (k1.il.length + 1) uc1, il := k1.il ++ [(.slice va1 (j + 1) vc1)] } := ⟨_, rfl⟩
   have hL2 : Hid (k2.il.length = K.il.length + 2 ∧ k2.rl = K.rl ∧ k2.bl = K.bl) := by
    have := hL1.out
    rw [hkn1]
    exact ⟨by simp only [List.length_append, List.length_cons, List.length_nil]; omega, this.2.1, this.2.2⟩
   have hiv2 : Hid (k2.iv = .slice ua1 (k1.il.length + 1) uc1) := by show _ = _; rw [hkn1]
   rw [← hkn1] at HQ1
   obtain ⟨y2, hy2⟩ : ∃ y, Hid (y = x1.setCell ⟨wb, 2, none⟩ (.slice ua1 (k1.il.length + 1) uc1)) := ⟨_, rfl⟩
   have hsz2 : Hid (y2.heap.size = x1.heap.size) := by show _ = _; rw [hy2.out]; simp [World.setCell]
   have HP2 := HQ1
   rw [← hy2.out] at HP2
   clear hkn1 xo1 xg1 xw1 hmk1 HQ1 HP1
   have hw2 := HP2.out.st.p.lt
   have hmk2 : Hid (markI k2.il.length = [.int .i64 m]) := by show _ = _; have q1 := hL2.out.1; have q2 := h4; rw [← HK.out] at q2; rw [Hm.out, markI, ← HK.out, q1]; congr 3; try omega
   have hlen2 : k2.il.length ≤ 1099511627776 + 2 := by have := hL2.out.1; rw [HK.out] at this; omega
   go_wp2_with (at_builtin; rw [← hy2.out]; refine wpList_append_src rfl (.tmp 65) (.tmp 67) 30 rfl 0 24 (.slice none 0 0) 1 24 Tryz.underlying30 Tryz.infoIs rfl (by omega) _ k2.il.length k2.il rfl ((own_cast hiv2.out HP2.out.st.p.ok.iown).alloc _) _ 1 [(.slice va2 (j + 2) vc2)] rfl (.inr (.inl ⟨x1.heap.size, 0, 1, rfl, sized hsz2.out (row_new y2 _ [(.slice va2 (j + 2) vc2)])⟩)) rfl (by intro u hu; simp at hu; subst hu; rfl) (by omega) (by omega) (by omega) ?_)
   intro u2 x2 xo2 xg2 xw2
   rw [← hiv2.out] at xg2 xw2
   obtain ⟨f2, z2⟩ := HP2.out.midI (alloc_below _ _) xg2.out
   obtain ⟨ua2, uc2, rfl⟩ := owns_formK xo2.out
   have HQ2 := hide (HP2.out.pushI hmk2.out (alloc_below _ _) xg2.out xo2.out (by simpa using xw2.out))
   obtain ⟨k3, hkn2⟩ : ∃ zz : BkD, zz = { k2 with iv := .slice ua2 (k2.il.length + 1) uc2, il := k2.il ++ [(.slice va2 (j + 2) vc2)] } := ⟨_, rfl⟩
   have hL3 : Hid (k3.il.length = K.il.length + 3 ∧ k3.rl = K.rl ∧ k3.bl = K.bl) := by
    have := hL2.out
    rw [hkn2]
    exact ⟨by simp only [List.length_append, List.length_cons, List.length_nil]; omega, this.2.1, this.2.2⟩
   have hiv3 : Hid (k3.iv = .slice ua2 (k2.il.length + 1) uc2) := by show _ = _; rw [hkn2]
   rw [← hkn2] at HQ2
   obtain ⟨y3, hy3⟩ : ∃ y, Hid (y = x2.setCell ⟨wb, 2, none⟩ (.slice ua2 (k2.il.length + 1) uc2)) := ⟨_, rfl⟩
   have hsz3 : Hid (y3.heap.size = x2.heap.size) := by show _ = _; rw [hy3.out]; simp [World.setCell]
   have HP3 := HQ2
   rw [← hy3.out] at HP3
   clear hkn2 xo2 xg2 xw2 hmk2 HQ2 HP2
   have hw3 := HP3.out.st.p.lt
   have hmk3 : Hid (markI k3.il.length = [.int .i64 m]) := by show _ = _; have q1 := hL3.out.1; have q2 := h4; rw [← HK.out] at q2; rw [Hm.out, markI, ← HK.out, q1]; congr 3; try omega
   have hlen3 : k3.il.length ≤ 1099511627776 + 3 := by have := hL3.out.1; rw [HK.out] at this; omega
   go_wp2_with (at_builtin; rw [← hy3.out]; refine wpList_append_src rfl (.tmp 75) (.tmp 77) 30 rfl 0 24 (.slice none 0 0) 1 24 Tryz.underlying30 Tryz.infoIs rfl (by omega) _ k3.il.length k3.il rfl ((own_cast hiv3.out HP3.out.st.p.ok.iown).alloc _) _ 1 [(.slice va3 (j + 3) vc3)] rfl (.inr (.inl ⟨x2.heap.size, 0, 1, rfl, sized hsz3.out (row_new y3 _ [(.slice va3 (j + 3) vc3)])⟩)) rfl (by intro u hu; simp at hu; subst hu; rfl) (by omega) (by omega) (by omega) ?_)
   intro u3 x3 xo3 xg3 xw3
   rw [← hiv3.out] at xg3 xw3
   obtain ⟨f3, z3⟩ := HP3.out.midI (alloc_below _ _) xg3.out
   obtain ⟨ua3, uc3, rfl⟩ := owns_formK xo3.out
   have HQ3 := hide (HP3.out.pushI hmk3.out (alloc_below _ _) xg3.out xo3.out (by simpa using xw3.out))
   obtain ⟨k4, hkn3⟩ : ∃ zz : BkD, zz = { k3 with iv := .slice ua3 (k3.il.length + 1) uc3, il := k3.il ++ [(.slice va3 (j + 3) vc3)] } := ⟨_, rfl⟩
   have hL4 : Hid (k4.il.length = K.il.length + 4 ∧ k4.rl = K.rl ∧ k4.bl = K.bl) := by
    have := hL3.out
    rw [hkn3]
    exact ⟨by simp only [List.length_append, List.length_cons, List.length_nil]; omega, this.2.1, this.2.2⟩
   have hiv4 : Hid (k4.iv = .slice ua3 (k3.il.length + 1) uc3) := by show _ = _; rw [hkn3]
   rw [← hkn3] at HQ3
   obtain ⟨y4, hy4⟩ : ∃ y, Hid (y = x3.setCell ⟨wb, 2, none⟩ (.slice ua3 (k3.il.length + 1) uc3)) := ⟨_, rfl⟩
   have hsz4 : Hid (y4.heap.size = x3.heap.size) := by show _ = _; rw [hy4.out]; simp [World.setCell]
   have HP4 := HQ3
   rw [← hy4.out] at HP4
   clear hkn3 xo3 xg3 xw3 hmk3 HQ3 HP3
   go_wp2_with fail
   rw [← hy4.out]
   refine bodyPost_end (results_none rfl _ _ _) rfl ?_
   exact ⟨rfl, k4, HP4.out.st.done, by rw [← HK.out]; exact hL4.out⟩
end Go.Proofs.YtndlmgocldckfaaGreat
