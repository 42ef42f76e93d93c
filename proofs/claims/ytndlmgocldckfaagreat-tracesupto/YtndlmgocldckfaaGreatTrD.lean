import Derived.Test.YtndlmgocldckfaaGreatG19
import Derived.Test.YtndlmgocldckfaaGreatG15
import Derived.Test.YtndlmgocldckfaaGreatG03
import Derived.Deep.LoopGhost
namespace Go.Proofs.YtndlmgocldckfaaGreat
open Go.RowKit
set_option linter.unusedVariables false
set_option linter.unusedSimpArgs false
set_option maxRecDepth 100000
set_option maxHeartbeats 4000000
theorem toldL_bad (n : Nat) (l : List Int) : toldL n l true = ([], l, true) := by
 cases n <;> simp [toldL]
theorem recsL_bad (n : Nat) (t : Int) (l : List Int) : recsL n t l true = ([], l, true) := by
 cases n <;> simp [recsL]
structure RcO (w : World) (eb : Nat) (n t k e : Int) (v : Value) : Prop where
 c0 : w.cell? ⟨eb, 0, none⟩ = some (.int .i64 n)
 c1 : w.cell? ⟨eb, 1, none⟩ = some (.int .i64 t)
 c2 : w.cell? ⟨eb, 2, none⟩ = some (.int .i64 k)
 c3 : w.cell? ⟨eb, 3, none⟩ = some (.int .i64 e)
 c4 : w.cell? ⟨eb, 4, none⟩ = some v
 room : Room w eb 5
section
variable {w wr w' : World} {db eb : Nat} {n t k e : Int} {v : Value} {all l : List Int} {bad : Bool}
theorem RcO.only {S : Nat → Prop} (h : RcO w eb n t k e v) (ho : Only S w w') (hn : ¬ S eb) : RcO w' eb n t k e v :=
 ⟨ho.at h.c0 hn, ho.at h.c1 hn, ho.at h.c2 hn, ho.at h.c3 hn, ho.at h.c4 hn, h.room.only ho hn⟩
theorem RcO.new (w : World) (T : TypeId) : RcO (w.alloc (.cells #[.int .i64 0, .int .i64 0, .int .i64 0, .int .i64 0, .slice none 0 0] T)) w.heap.size 0 0 0 0 (.slice none 0 0) := by
 refine ⟨by simp [go_sem], by simp [go_sem], by simp [go_sem], by simp [go_sem], by simp [go_sem], ?_⟩
 intro j hj
 have : j = 0 ∨ j = 1 ∨ j = 2 ∨ j = 3 ∨ j = 4 := by omega
 rcases this with rfl | rfl | rfl | rfl | rfl <;> simp [go_sem]
theorem setOther {j i : Nat} {u v : Value} (hi : i ≠ j) (hc : w.cell? ⟨eb, i, none⟩ = some v) : (w.setCell ⟨eb, j, none⟩ u).cell? ⟨eb, i, none⟩ = some v := by
 rw [World.cell?_setCell_other _ _ _ _ (by simp; try omega)]; exact hc
theorem RcO.set0 (h : RcO w eb n t k e v) (x : Int) : RcO (w.setCell ⟨eb, 0, none⟩ (.int .i64 x)) eb x t k e v :=
 ⟨World.cell?_setCell_same' _ _ _ (h.room 0 (by omega)).1, setOther (by omega) h.c1, setOther (by omega) h.c2, setOther (by omega) h.c3, setOther (by omega) h.c4, h.room.setCell _ _⟩
theorem RcO.set1 (h : RcO w eb n t k e v) (x : Int) : RcO (w.setCell ⟨eb, 1, none⟩ (.int .i64 x)) eb n x k e v :=
 ⟨setOther (by omega) h.c0, World.cell?_setCell_same' _ _ _ (h.room 1 (by omega)).1, setOther (by omega) h.c2, setOther (by omega) h.c3, setOther (by omega) h.c4, h.room.setCell _ _⟩
theorem RcO.set2 (h : RcO w eb n t k e v) (x : Int) : RcO (w.setCell ⟨eb, 2, none⟩ (.int .i64 x)) eb n t x e v :=
 ⟨setOther (by omega) h.c0, setOther (by omega) h.c1, World.cell?_setCell_same' _ _ _ (h.room 2 (by omega)).1, setOther (by omega) h.c3, setOther (by omega) h.c4, h.room.setCell _ _⟩
theorem RcO.set3 (h : RcO w eb n t k e v) (x : Int) : RcO (w.setCell ⟨eb, 3, none⟩ (.int .i64 x)) eb n t k x v :=
 ⟨setOther (by omega) h.c0, setOther (by omega) h.c1, setOther (by omega) h.c2, World.cell?_setCell_same' _ _ _ (h.room 3 (by omega)).1, setOther (by omega) h.c4, h.room.setCell _ _⟩
theorem RcO.set4 (h : RcO w eb n t k e v) (x : Value) : RcO (w.setCell ⟨eb, 4, none⟩ x) eb n t k e x :=
 ⟨setOther (by omega) h.c0, setOther (by omega) h.c1, setOther (by omega) h.c2, setOther (by omega) h.c3, World.cell?_setCell_same' _ _ _ (h.room 4 (by omega)).1, h.room.setCell _ _⟩
structure RdX (wr w : World) (db eb : Nat) (all : List Int) (n t k e : Int) (v : Value) (l : List Int) (bad : Bool) : Prop where
 only : Only (fun b => b = db ∨ eb ≤ b) wr w
 rd : RdS w db all l bad
 rc : RcO w eb n t k e v
 ne : db < eb
theorem RdX.num (h : RdX wr w db eb all n t k e v l bad) (hv : ∀ c ∈ all, 0 ≤ c ∧ c < 256) (hl : all.length ≤ 1000000000) (low high : Int) :
  Calls Tryz.prog 67 #[.pointer (some ⟨db, 0, none⟩), .int .i64 low, .int .i64 high] w fun ex w' => ex = .returned (.int .i64 (numL low high l bad).1) ∧ RdX wr w' db eb all n t k e v (numL low high l bad).2.1 (numL low high l bad).2.2 := by
 refine (rdNum_any db all l bad low high w h.rd hv hl).mono ?_
 rintro ex w' ⟨rfl, ho, hr⟩
 have := h.ne
 exact ⟨rfl, h.only.chain ho (fun i _ hi => .inl hi), hr, h.rc.only ho (by omega), h.ne⟩
theorem RdX.put (h : RdX wr w db eb all n t k e v l bad) {j : Nat} {u : Value} {n' t' k' e' : Int} {v' : Value} (hc : RcO (w.setCell ⟨eb, j, none⟩ u) eb n' t' k' e' v') : RdX wr (w.setCell ⟨eb, j, none⟩ u) db eb all n' t' k' e' v' l bad := by
 have ho : Only (· = eb) w (w.setCell ⟨eb, j, none⟩ u) := Only.setCell (S := (· = eb)) (Only.refl _ _) rfl _
 have := h.ne
 exact ⟨h.only.chain ho (fun i _ hi => .inr (by omega)), h.rd.only ho (by omega), hc, h.ne⟩
end
structure ToJ (wr w : World) (db eb : Nat) (all : List Int) (n t k e : Int) (v : Value) (M : Nat) (RES : List Int × List Int × Bool) (j : Nat) (ts l : List Int) (bad : Bool) : Prop where
 x : RdX wr w db eb all n t k e v l bad
 row : w.ownsRow (eb + 1) 3 1 v ts.length (ints ts)
 len : ts.length = j
 ok : bad = false → M ≤ 16
 res1 : ts ++ (toldL (M - j) l bad).1 = RES.1
 res2 : (toldL (M - j) l bad).2 = RES.2
theorem ToJ.push {wr w w1 W w2 : World} {db eb : Nat} {all : List Int} {n t k e : Int} {v v2 : Value} {M : Nat} {RES : List Int × List Int × Bool} {j : Nat} {ts l l' : List Int} {x : Int} {b' : Bool} (h : ToJ wr w db eb all n t k e v M RES j ts l false) (hj : j < M) (hes : sgnL l false = (x, l', b')) (ho1 : Only (· = db) w w1) (hr1 : RdS w1 db all l' b')
  (hW : Below w1.heap.size w1 W) (hg : W.grownBy w2 v.ownBlock) (hown : w2.ownsRow (eb + 1) 3 1 v2 (ts.length + 1) (ints ts ++ [.int .i64 x])) (hwh : v2.ownBlock = v.ownBlock ∨ v2.ownBlock = some W.heap.size) :
  ToJ wr (w2.setCell ⟨eb, 4, none⟩ v2) db eb all n t k e v2 M RES (j + 1) (ts ++ [x]) l' b' := by
 have hne := h.x.ne
 have hlt := h.row.lt
 have hel : eb < w.heap.size := lt_of_cell h.x.rc.c0
 have hz1 := ho1.size
 have hzW := hW.size
 have hz2 := hg.size
 have hx1 : RdX wr w1 db eb all n t k e v l' b' := ⟨h.x.only.chain ho1 (fun i _ hi => .inl hi), hr1, h.x.rc.only ho1 (by omega), hne⟩
 have ho2 : Only (fun b => some b = v.ownBlock) w1 w2 := (Only.new hW).trans (only_of_grown hg)
 have hnb : ∀ b, some b = v.ownBlock → eb < b := fun b hb => by have := (hlt b hb.symm).1; omega
 have hx2 : RdX wr w2 db eb all n t k e v l' b' := ⟨hx1.only.chain ho2 (fun i _ hi => .inr (by have := hnb i hi; omega)), hx1.rd.only ho2 (fun hc => by have := hnb _ hc; omega), hx1.rc.only ho2 (fun hc => by have := hnb _ hc; omega), hne⟩
 have hs : Only (· = eb) w2 (w2.setCell ⟨eb, 4, none⟩ v2) := Only.setCell (S := (· = eb)) (Only.refl _ _) rfl _
 refine ⟨hx2.put (hx2.rc.set4 v2), ?_, by simp [h.len], fun _ => h.ok rfl, ?_, ?_⟩
 ·rw [List.length_append]
  have he : ints (ts ++ [x]) = ints ts ++ [.int .i64 x] := by simp [ints]
  rw [he]
  refine owns_keep hown hs (fun b hb hc => ?_)
  rcases hwh with e | e
  ·rw [e] at hb; have := hnb b hb; omega
  ·rw [e] at hb; have := Option.some.inj hb; omega
 ·have := h.res1
  rw [show M - j = (M - (j + 1)) + 1 by omega, toldL, if_neg (by simp), hes] at this
  rw [← this]; simp
 ·have := h.res2
  rw [show M - j = (M - (j + 1)) + 1 by omega, toldL, if_neg (by simp), hes] at this
  exact this
theorem ToJ.done {wr w : World} {db eb : Nat} {all : List Int} {n t k e : Int} {v : Value} {M : Nat} {RES : List Int × List Int × Bool} {j : Nat} {ts l : List Int} {bad : Bool} (h : ToJ wr w db eb all n t k e v M RES j ts l bad) (hd : bad = true ∨ M ≤ j) : RES = (ts, l, bad) := by
 have h1 := h.res1
 have h2 := h.res2
 obtain ⟨a, b⟩ := RES
 simp only at h1 h2
 rcases hd with rfl | hd
 ·rw [toldL_bad] at h1 h2
  rw [← h1, ← h2]; simp
 ·rw [show M - j = 0 by omega] at h1 h2
  rw [← h1, ← h2]; simp [toldL]
theorem AllR.mono {w : World} {Z Z' : Nat} {av : Value} {L : List RecC} {rs : List Rec} (h : AllR w Z av L rs) (hz : Z' ≤ Z) : AllR w Z' av L rs :=
 ⟨h.len, owns_mono h.row hz, fun j x r hx hr => ⟨(h.rec_ j x r hx hr).1, (h.rec_ j x r hx hr).2.1, owns_mono (h.rec_ j x r hx hr).2.2 hz⟩, h.tsep⟩
structure DcI (w wr : World) (db : Nat) (all : List Int) (N : Nat) (RES : List Rec × List Int × Bool) (i : Nat) (t : Int) (lv : Value) (L : List RecC) (rs : List Rec) (l : List Int) (bad : Bool) : Prop where
 bel : Below w.heap.size w wr
 dlo : w.heap.size ≤ db
 rd : RdS wr db all l bad
 recs : AllR wr (db + 1) lv L rs
 len : L.length = i
 ok : bad = false → N ≤ 1000 ∧ 0 ≤ t ∧ t ≤ 1000000000000 * i
 res1 : rs ++ (recsL (N - i) t l bad).1 = RES.1
 res2 : (recsL (N - i) t l bad).2 = RES.2
theorem DcI.done {w wr : World} {db : Nat} {all : List Int} {N : Nat} {RES : List Rec × List Int × Bool} {i : Nat} {t : Int} {lv : Value} {L : List RecC} {rs : List Rec} {l : List Int} {bad : Bool} (h : DcI w wr db all N RES i t lv L rs l bad) (hd : bad = true ∨ N ≤ i) : RES = (rs, l, bad) := by
 have h1 := h.res1
 have h2 := h.res2
 obtain ⟨a, b⟩ := RES
 simp only at h1 h2
 rcases hd with rfl | hd
 ·rw [recsL_bad] at h1 h2
  rw [← h1, ← h2]; simp
 ·rw [show N - i = 0 by omega] at h1 h2
  rw [← h1, ← h2]; simp [recsL]
theorem DcI.push {w wr wx W w2 : World} {db : Nat} {all : List Int} {N : Nat} {RES : List Rec × List Int × Bool} {i : Nat} {t : Int} {lv lv2 : Value} {L : List RecC} {rs : List Rec} {l : List Int} {xn xt xk xe : Int} {sa : Option Addr} {sc : Nat} {ts l2 : List Int} {b2 : Bool} (h : DcI w wr db all N RES i t lv L rs l false) (hi : i < N) (hrec : recL t l false = (⟨⟨xt, xn, xk, xe⟩, ts⟩, l2, b2)) (hok : b2 = false → t ≤ xt ∧ xt ≤ t + 1000000000000)
  (hx : RdX wr wx db wr.heap.size all xn xt xk xe (.slice sa ts.length sc) l2 b2) (hrow : wx.ownsRow (wr.heap.size + 1) 3 1 (.slice sa ts.length sc) ts.length (ints ts))
  (hW : Below wx.heap.size wx W) (hg : W.grownBy w2 lv.ownBlock) (hown : w2.ownsRow (db + 1) 46 5 lv2 (L.length + 1) (recCells L ++ (RecC.mk ⟨xt, xn, xk, xe⟩ sa ts.length sc).cells)) (hwh : lv2.ownBlock = lv.ownBlock ∨ lv2.ownBlock = some W.heap.size) :
  DcI w w2 db all N RES (i + 1) xt lv2 (L ++ [⟨⟨xt, xn, xk, xe⟩, sa, ts.length, sc⟩]) (rs ++ [⟨⟨xt, xn, xk, xe⟩, ts⟩]) l2 b2 := by
 have hdl := h.rd.lt
 have hbel := h.bel.size
 have hd := h.dlo
 have hzx := hx.only.size
 have hzW := hW.size
 have hall : AllR W (db + 1) lv L rs := (h.recs.only hx.only (fun b hb hc => by have := h.recs.lt b hb; omega)).only (Only.new (S := fun _ => False) hW) (by simp)
 have hrowW := owns_keep hrow (Only.new (S := fun _ => False) hW) (by simp)
 have hlv : ∀ b, some b = lv.ownBlock → db < b ∧ b < wr.heap.size := fun b hb => by have := h.recs.lt b (.inl hb); omega
 have ho2 := only_of_grown hg
 refine ⟨?_, hd, ?_, ?_, by simp [h.len], ?_, ?_, ?_⟩
 ·refine h.bel.trans (Below.trans (hx.only.below hbel (fun k hk hc => by omega)) (((Only.new (S := fun b => some b = lv.ownBlock) hW).trans ho2).below (by omega) (fun k hk hc => by have := hlv k hc; omega)))
 ·exact (hx.rd.below hW).only ho2 (fun hc => by have := hlv _ hc; omega)
 ·exact hall.snoc (x := ⟨⟨xt, xn, xk, xe⟩, sa, ts.length, sc⟩) (r := ⟨⟨xt, xn, xk, xe⟩, ts⟩) rfl rfl (owns_mono hrowW (by omega)) hg hown hwh (fun b hb hc => by have := (hrow.lt b hb.symm).1; have := hlv b hc; omega)
 ·intro hb
  have h1 := h.ok rfl
  have h2 := hok hb
  refine ⟨h1.1, by omega, ?_⟩
  have : (1000000000000 : Int) * ((i + 1 : Nat) : Int) = 1000000000000 * (i : Int) + 1000000000000 := by rw [Int.natCast_add]; omega
  omega
 ·have := h.res1
  rw [show N - i = (N - (i + 1)) + 1 by omega, recsL, if_neg (by simp), hrec] at this
  rw [← this]; simp
 ·have := h.res2
  rw [show N - i = (N - (i + 1)) + 1 by omega, recsL, if_neg (by simp), hrec] at this
  exact this
end Go.Proofs.YtndlmgocldckfaaGreat
