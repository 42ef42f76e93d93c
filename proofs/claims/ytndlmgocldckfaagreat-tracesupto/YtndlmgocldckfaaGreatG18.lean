import Derived.Test.YtndlmgocldckfaaGreatG16
import Derived.Test.YtndlmgocldckfaaGreatG15
import Derived.Test.YtndlmgocldckfaaGreatG07
import Derived.Test.YtndlmgocldckfaaGreatG03
import Derived.Test.YtndlmgocldckfaaGreatG14
import Derived.Test.YtndlmgocldckfaaGreatG17
namespace Go.Proofs.YtndlmgocldckfaaGreat
open Go.RowKit
set_option linter.unusedVariables false
set_option linter.unusedSimpArgs false
set_option maxRecDepth 100000
set_option maxHeartbeats 4000000
def toldRF : Nat → List Int → Bool → List Int × List Int × Bool
 | 0, l, f => ([], l, f)
 | n + 1, l, f => ((readS 1000000000 l f).1 :: (toldRF n (readS 1000000000 l f).2.1 (readS 1000000000 l f).2.2).1, (toldRF n (readS 1000000000 l f).2.1 (readS 1000000000 l f).2.2).2)
def recRF (t : Int) (l : List Int) (flt : Bool) : Rec × List Int × Bool :=
 let a := readF 0 (1000000000000 - t) l flt
 let b := readF 0 1000000000 a.2.1 a.2.2
 let c := readF 0 7 b.2.1 b.2.2
 let d := readF 0 7 c.2.1 c.2.2
 let n := readF 0 16 d.2.1 d.2.2
 let s := toldRF n.1.toNat n.2.1 n.2.2
 (⟨⟨t + a.1, b.1, c.1, d.1⟩, s.1⟩, s.2)
theorem toldRF_len : ∀ (n : Nat) (l : List Int) (f : Bool), (toldRF n l f).1.length = n
 | 0, l, f => rfl
 | n + 1, l, f => by simp [toldRF, toldRF_len n]
theorem owns_mono {w : World} {base base' : Nat} {e : TypeId} {size : Nat} {v : Value} {n : Nat} {xs : List Value} (h : w.ownsRow base e size v n xs) (hb : base' ≤ base) : w.ownsRow base' e size v n xs := by
 obtain ⟨h1, h2⟩ := h
 refine ⟨h1, ?_⟩
 rcases h2 with h2 | ⟨g, cap, cur, rfl, hg, r⟩
 ·exact .inl h2
 ·exact .inr ⟨g, cap, cur, rfl, by omega, r⟩
structure RdV (w wr : World) (rb g C V : Nat) (l : List Int) (f : Bool) (e : Ev) (sv : Value) (ts : List Int) : Prop where
 only : Only (· = rb) w wr
 rd : RdP wr rb g l f
 var : RecVar wr V e sv
 room : Room wr V 5
 croom : Room wr C 5
 row : wr.ownsRow (V + 1) 3 1 sv ts.length (ints ts)
 rlt : rb < w.heap.size
 glt : g < w.heap.size
 cge : w.heap.size ≤ C
 vge : C < V
section
variable {w wr w' : World} {rb g C V : Nat} {l l' : List Int} {f f' : Bool} {e e' : Ev} {sv : Value} {ts : List Int}
theorem RdV.read (h : RdV w wr rb g C V l f e sv ts) (ho : Only (· = rb) wr w') (hr : RdP w' rb g l' f') : RdV w w' rb g C V l' f' e sv ts := by
 have h1 := h.rlt
 have h2 := h.cge
 have h3 := h.vge
 refine ⟨h.only.trans ho, hr, ⟨ho.at h.var.c0 (by omega), ho.at h.var.c1 (by omega), ho.at h.var.c2 (by omega), ho.at h.var.c3 (by omega), ho.at h.var.c4 (by omega)⟩, h.room.only ho (by omega), h.croom.only ho (by omega), owns_keep h.row ho ?_, h.rlt, h.glt, h.cge, h.vge⟩
 intro b hb hc
 have := (h.row.lt b hb.symm).1
 omega
theorem RdV.set (h : RdV w wr rb g C V l f e sv ts) (j : Nat) (v : Value) (hv : RecVar (wr.setCell ⟨V, j, none⟩ v) V e' sv) : RdV w (wr.setCell ⟨V, j, none⟩ v) rb g C V l f e' sv ts := by
 have h1 := h.rlt
 have h2 := h.cge
 have h3 := h.vge
 have h4 := h.glt
 have ho : Only (· = V) wr (wr.setCell ⟨V, j, none⟩ v) := (Only.refl (· = V) wr).setCell (p := ⟨V, j, none⟩) (show V = V from rfl) _
 refine ⟨h.only.chain ho (fun i hi hc => by omega), h.rd.only ho (by omega) (by omega), hv, h.room.setCell _ _, h.croom.setCell _ _, owns_keep h.row ho ?_, h.rlt, h.glt, h.cge, h.vge⟩
 intro b hb hc
 have := (h.row.lt b hb.symm).1
 omega
theorem RdV.set0 (h : RdV w wr rb g C V l f e sv ts) (n : Int) : RdV w (wr.setCell ⟨V, 0, none⟩ (.int .i64 n)) rb g C V l f ⟨e.time, n, e.kind, e.entity⟩ sv ts :=
 h.set 0 _ ⟨World.cell?_setCell_same' _ _ _ (h.room 0 (by omega)).1, (World.cell?_setCell_other _ _ _ _ (by simp)).trans h.var.c1, (World.cell?_setCell_other _ _ _ _ (by simp)).trans h.var.c2, (World.cell?_setCell_other _ _ _ _ (by simp)).trans h.var.c3, (World.cell?_setCell_other _ _ _ _ (by simp)).trans h.var.c4⟩
theorem RdV.set2 (h : RdV w wr rb g C V l f e sv ts) (n : Int) : RdV w (wr.setCell ⟨V, 2, none⟩ (.int .i64 n)) rb g C V l f ⟨e.time, e.number, n, e.entity⟩ sv ts :=
 h.set 2 _ ⟨(World.cell?_setCell_other _ _ _ _ (by simp)).trans h.var.c0, (World.cell?_setCell_other _ _ _ _ (by simp)).trans h.var.c1, World.cell?_setCell_same' _ _ _ (h.room 2 (by omega)).1, (World.cell?_setCell_other _ _ _ _ (by simp)).trans h.var.c3, (World.cell?_setCell_other _ _ _ _ (by simp)).trans h.var.c4⟩
theorem RdV.set3 (h : RdV w wr rb g C V l f e sv ts) (n : Int) : RdV w (wr.setCell ⟨V, 3, none⟩ (.int .i64 n)) rb g C V l f ⟨e.time, e.number, e.kind, n⟩ sv ts :=
 h.set 3 _ ⟨(World.cell?_setCell_other _ _ _ _ (by simp)).trans h.var.c0, (World.cell?_setCell_other _ _ _ _ (by simp)).trans h.var.c1, (World.cell?_setCell_other _ _ _ _ (by simp)).trans h.var.c2, World.cell?_setCell_same' _ _ _ (h.room 3 (by omega)).1, (World.cell?_setCell_other _ _ _ _ (by simp)).trans h.var.c4⟩
theorem RdV.tell (h : RdV w wr rb g C V l f e sv ts) {o1 : Obj} {w2 : World} {sv2 : Value} {x : Int} (hg : (wr.alloc o1).grownBy w2 sv.ownBlock) (hown : w2.ownsRow (V + 1) 3 1 sv2 (ts.length + 1) (ints ts ++ [.int .i64 x])) : RdV w (w2.setCell ⟨V, 4, none⟩ sv2) rb g C V l f e sv2 (ts ++ [x]) := by
 have h1 := h.rlt
 have h2 := h.cge
 have h3 := h.vge
 have h4 := h.glt
 have hz := h.only.size
 have hbA : Below wr.heap.size wr (wr.alloc o1) := (Below.refl _ _).alloc (Nat.le_refl _) _
 have hO : Only (fun b => some b = sv.ownBlock) wr w2 := (Only.new hbA).trans (only_of_grown hg)
 have hlt : ∀ b, some b = sv.ownBlock → V + 1 ≤ b := fun b hb => (h.row.lt b hb.symm).1
 have hro : Room w2 V 5 := h.room.only hO (fun hc => by have := hlt _ hc; omega)
 have ho : Only (· = V) w2 (w2.setCell ⟨V, 4, none⟩ sv2) := (Only.refl (· = V) w2).setCell (p := ⟨V, 4, none⟩) (show V = V from rfl) _
 have hv : RecVar w2 V e sv := ⟨hO.at h.var.c0 (fun hc => by have := hlt _ hc; omega), hO.at h.var.c1 (fun hc => by have := hlt _ hc; omega), hO.at h.var.c2 (fun hc => by have := hlt _ hc; omega), hO.at h.var.c3 (fun hc => by have := hlt _ hc; omega), hO.at h.var.c4 (fun hc => by have := hlt _ hc; omega)⟩
 refine ⟨(h.only.chain hO (fun i hi hc => by have := hlt _ hc; omega)).chain ho (fun i hi hc => by omega), (h.rd.only hO (fun hc => by have := hlt _ hc; omega) (fun hc => by have := hlt _ hc; omega)).only ho (by omega) (by omega), ?_, hro.setCell _ _, (h.croom.only hO (fun hc => by have := hlt _ hc; omega)).setCell _ _, owns_keep (by simpa [ints] using hown) ho ?_, h.rlt, h.glt, h.cge, h.vge⟩
 ·exact ⟨(World.cell?_setCell_other _ _ _ _ (by simp)).trans hv.c0, (World.cell?_setCell_other _ _ _ _ (by simp)).trans hv.c1, (World.cell?_setCell_other _ _ _ _ (by simp)).trans hv.c2, (World.cell?_setCell_other _ _ _ _ (by simp)).trans hv.c3, World.cell?_setCell_same' _ _ _ (hro 4 (by omega)).1⟩
 ·intro b hb hc
  have := (hown.lt b hb.symm).1
  omega
theorem RdV.drew (h : RdV w wr rb g C V l f e sv ts) : RdV w wr.drew rb g C V l f e sv ts :=
 h.read (Only.new (Below.refl _ _).drew) (h.rd.only (Only.new (S := fun _ => False) (Below.refl _ _).drew) (by simp) (by simp))
end
theorem rRec_any (rb g : Nat) (l : List Int) (flt : Bool) (t : Int) (w : World) (h : RdP w rb g l flt) (ht : 0 ≤ t ∧ t ≤ 1000000000000) :
  Calls Tryz.prog 107 #[.pointer (some ⟨rb, 0, none⟩), .int .i64 t] w fun e w' => ∃ sa sc, e = .returned (.agg #[.int .i64 (recRF t l flt).1.e.number, .int .i64 (recRF t l flt).1.e.time, .int .i64 (recRF t l flt).1.e.kind, .int .i64 (recRF t l flt).1.e.entity, .slice sa (recRF t l flt).1.told.length sc]) ∧ Only (· = rb) w w' ∧ RdP w' rb g (recRF t l flt).2.1 (recRF t l flt).2.2 ∧ w'.ownsRow w.heap.size 3 1 (.slice sa (recRF t l flt).1.told.length sc) (recRF t l flt).1.told.length (ints (recRF t l flt).1.told) := by
 have H := hide h
 have hgl := h.glt
 have hrl := h.lt
 have hws : IntKind.i64.wrap (1000000000000 - t) = 1000000000000 - t := by rw [IntKind.wrap_i64]; omega
 have g1 := readF_le 0 (1000000000000 - t) (by omega) l flt
 have HE : Hid (recRF t l flt = (let a := readF 0 (1000000000000 - t) l flt; let b := readF 0 1000000000 a.2.1 a.2.2; let c := readF 0 7 b.2.1 b.2.2; let d := readF 0 7 c.2.1 c.2.2; let n := readF 0 16 d.2.1 d.2.2; let s := toldRF n.1.toNat n.2.1 n.2.2; (⟨⟨t + a.1, b.1, c.1, d.1⟩, s.1⟩, s.2))) := by show _ = _; rfl
 generalize recRF t l flt = out at HE ⊢
 generalize hA : readF 0 (1000000000000 - t) l flt = A at HE g1
 obtain ⟨v1, l1, f1⟩ := A
 simp only at HE g1
 generalize hB : readF 0 1000000000 l1 f1 = B at HE
 obtain ⟨v2, l2, f2⟩ := B
 simp only at HE
 generalize hC : readF 0 7 l2 f2 = CC at HE
 obtain ⟨v3, l3, f3⟩ := CC
 simp only at HE
 generalize hD : readF 0 7 l3 f3 = D at HE
 obtain ⟨v4, l4, f4⟩ := D
 simp only at HE
 have g5 := readF_le 0 16 (by omega) l4 f4
 generalize hN : readF 0 16 l4 f4 = NN at HE g5
 obtain ⟨v5, l5, f5⟩ := NN
 simp only at HE g5
 obtain ⟨N, rfl⟩ := Int.eq_ofNat_of_zero_le (show 0 ≤ v5 by omega)
 rw [Int.toNat_natCast] at HE
 have hN16 : N ≤ 16 := by omega
 have htl := toldRF_len N l5 f5
 generalize hT : toldRF N l5 f5 = T at HE htl
 obtain ⟨told, l6, f6⟩ := T
 simp only at HE htl
 have HA := hide hA
 have HB := hide hB
 have HC := hide hC
 have HD := hide hD
 have HN := hide hN
 have HT := hide hT
 have hwa : IntKind.i64.wrap (t + v1) = t + v1 := by rw [IntKind.wrap_i64]; omega
 clear h hA hB hC hD hN hT htl
 go_enter Tryz.func107, Tryz.ntmps107
 go_wp2_with fail
 obtain ⟨W0, hW0⟩ : ∃ W0, W0 = w.alloc (.cells #[.int .i64 0, .int .i64 0, .int .i64 0, .int .i64 0, .slice none 0 0] 46) := ⟨_, rfl⟩
 have hb0 : Below w.heap.size w W0 := by rw [hW0]; exact (Below.refl _ _).alloc (Nat.le_refl _) _
 have hz0 : W0.heap.size = w.heap.size + 1 := by rw [hW0]; simp
 have hr0 : Room W0 w.heap.size 5 := by
  rw [hW0]
  intro j hj
  have : j = 0 ∨ j = 1 ∨ j = 2 ∨ j = 3 ∨ j = 4 := by omega
  rcases this with rfl | rfl | rfl | rfl | rfl <;> simp [go_sem]
 rw [← hW0]
 refine (rNum_any rb g l flt 0 (1000000000000 - t) W0 (H.out.only (Only.new (S := fun _ => False) hb0) (by simp) (by simp))).mono ?_
 rintro e w1 ⟨rfl, ho1, hr1⟩
 rw [HA.out] at hr1 ⊢
 simp only at hr1 ⊢
 have hz1 := ho1.size
 have Hcr := hide (hr0.only ho1 (show ¬ w.heap.size = rb by omega))
 have HO1 : Hid (Only (· = rb) w w1) := (Only.new hb0).trans ho1
 have HR1 := hide hr1
 clear hW0 hb0 hr0 ho1 hr1
 go_wp2_with fail
 obtain ⟨W1, hW1⟩ : ∃ W1, W1 = w1.alloc (.cells #[.int .i64 0, .int .i64 (t + v1), .int .i64 0, .int .i64 0, .slice none 0 0] 46) := ⟨_, rfl⟩
 have hb1 : Below w1.heap.size w1 W1 := by rw [hW1]; exact (Below.refl _ _).alloc (Nat.le_refl _) _
 have HV1 : Hid (RdV w W1 rb g w.heap.size w1.heap.size l1 f1 ⟨t + v1, 0, 0, 0⟩ (.slice none 0 0) []) := by
  refine ⟨HO1.out.trans (Only.new hb1), HR1.out.only (Only.new (S := fun _ => False) hb1) (by simp) (by simp), ?_, ?_, Hcr.out.below hb1 (by omega), ?_, hrl, hgl, Nat.le_refl _, by omega⟩
  ·rw [hW1]; exact RecVar.new w1 ⟨t + v1, 0, 0, 0⟩ _ _
  ·rw [hW1]
   intro j hj
   have : j = 0 ∨ j = 1 ∨ j = 2 ∨ j = 3 ∨ j = 4 := by omega
   rcases this with rfl | rfl | rfl | rfl | rfl <;> simp [go_sem]
  ·exact ⟨rfl, .inl ⟨rfl, rfl⟩⟩
 rw [← hW1]
 generalize w1.heap.size = V at HV1 hz1 ⊢
 generalize w.heap.size = C at HV1 hz0 hz1 hgl hrl ⊢
 clear hW1 hb1
 refine (rNum_any rb g l1 f1 _ _ W1 HV1.out.rd).mono ?_
 rintro e w2 ⟨rfl, ho2, hr2⟩
 rw [HB.out] at hr2 ⊢
 simp only at hr2 ⊢
 have HV2 := hide (HV1.out.read ho2 hr2)
 have x0 := HV2.out.var.c0
 have z0 := (HV2.out.room 0 (by omega)).2
 clear ho2 hr2
 go_wp2_with fail
 have HV2s := hide (HV2.out.set0 v2)
 simp only at HV2s
 generalize w2.setCell ⟨V, 0, none⟩ (.int .i64 v2) = W2 at HV2s ⊢
 clear x0 z0 HV2
 refine (rNum_any rb g l2 f2 _ _ W2 HV2s.out.rd).mono ?_
 rintro e w3 ⟨rfl, ho3, hr3⟩
 rw [HC.out] at hr3 ⊢
 simp only at hr3 ⊢
 have HV3 := hide (HV2s.out.read ho3 hr3)
 have x2 := HV3.out.var.c2
 have z2 := (HV3.out.room 2 (by omega)).2
 clear ho3 hr3
 go_wp2_with fail
 have HV3s := hide (HV3.out.set2 v3)
 simp only at HV3s
 generalize w3.setCell ⟨V, 2, none⟩ (.int .i64 v3) = W3 at HV3s ⊢
 clear x2 z2 HV3
 refine (rNum_any rb g l3 f3 _ _ W3 HV3s.out.rd).mono ?_
 rintro e w4 ⟨rfl, ho4, hr4⟩
 rw [HD.out] at hr4 ⊢
 simp only at hr4 ⊢
 have HV4 := hide (HV3s.out.read ho4 hr4)
 have x3 := HV4.out.var.c3
 have z3 := (HV4.out.room 3 (by omega)).2
 clear ho4 hr4
 go_wp2_with fail
 have HV4s := hide (HV4.out.set3 v4)
 simp only at HV4s
 generalize w4.setCell ⟨V, 3, none⟩ (.int .i64 v4) = W4 at HV4s ⊢
 clear x3 z3 HV4
 refine (rNum_any rb g l4 f4 _ _ W4 HV4s.out.rd).mono ?_
 rintro e w5 ⟨rfl, ho5, hr5⟩
 rw [HN.out] at hr5 ⊢
 simp only at hr5 ⊢
 have HV5 := hide (HV4s.out.read ho5 hr5)
 clear ho5 hr5 HV1 HV2s HV3s HV4s
 go_wp2_with fail
 go_loopg [24] 20 (fun gf s24 wx => ∃ (k : Nat) (ts : List Int) (sv : Value) (lk : List Int) (fk : Bool), s24 = .int .i64 k ∧ N - k + 2 ≤ gf ∧ k ≤ N ∧ ts.length = k ∧ Hid (RdV w wx rb g C V lk fk ⟨t + v1, v2, v3, v4⟩ sv ts ∧ ts ++ (toldRF (N - k) lk fk).1 = told ∧ (toldRF (N - k) lk fk).2 = (l6, f6)))
 case atStart => exact ⟨0, [], _, l5, f5, rfl, by omega, by omega, rfl, HV5.out, by simp [HT.out], by simp [HT.out]⟩
 case round =>
  obtain ⟨k, ts, sv, lk, fk, rfl, hgf, hk, htk, hK⟩ := hrel
  have Htk := hide htk
  have htk16 : ts.length ≤ 16 := by omega
  clear htk
  by_cases hlt : k < N
  ·have d1 : decide ((k : Int) < (N : Int)) = true := by simp; omega
   have hw : IntKind.i64.wrap ((k : Int) + 1) = (k : Int) + 1 := by rw [IntKind.wrap_i64]; omega
   have hK2 := hK.out.2
   rw [show N - k = (N - (k + 1)) + 1 by omega, toldRF] at hK2
   simp only at hK2
   have HK2 := hide hK2
   have HV := hide hK.out.1
   have HVd := hide hK.out.1.drew
   have c4 : wr.drew.cell? ⟨V, 4, none⟩ = some sv := HVd.out.var.c4
   have HX := hide (rSgn_any rb g lk fk wr.drew HVd.out.rd)
   clear hK2 hK
   go_wp2_with fail
   go_region_law (first | (go_simp; go_at_call 105; refine HX.out.mono ?_; rintro e' w6 ⟨rfl, ho6, hr6⟩; (have HV6 := hide (HVd.out.read ho6 hr6)); (have c5 := HV6.out.var.c4); (have c6 : ∀ o, (w6.alloc o).cell? ⟨V, 4, none⟩ = some sv := fun o => below_at ((Below.refl w6.heap.size w6).alloc (Nat.le_refl _) o) c5 (lt_of_cell c5))) | (refine step_append_src rfl (.tmp 27) (.tmp 30) 24 rfl (V + 1) 3 (.int .i64 0) 1 8 Tryz.underlying24 Tryz.info3 rfl (by omega) sv ts.length (ints ts) rfl (HV6.out.row.alloc _) _ 1 [.int .i64 (readS 1000000000 lk fk).1] rfl (.inr (.inl ⟨w6.heap.size, 0, _, rfl, row_one _ _ _⟩)) rfl (by simp [Value.oneCell']) (by omega) (by omega) (by have := lt_of_cell c5; simp; omega) ?_; intro v7 w7 hown7 hgr7 hwh7; (have c7 : w7.cell? ⟨V, 4, none⟩ = some sv := (only_of_grown hgr7.out).at (c6 _) (fun hc => by have := (HV6.out.row.lt _ hc.symm).1; omega)); (have z7 : w7.frozen? ⟨V, 4, none⟩ = false := (((HV6.out.room.below ((Below.refl w6.heap.size w6).alloc (Nat.le_refl _) _) (lt_of_cell c5)).only (only_of_grown hgr7.out) (fun hc => by have := (HV6.out.row.lt _ hc.symm).1; omega)) 4 (by omega)).2); obtain ⟨sa7, sc7, rfl⟩ := owns_form1 hown7.out))
   all_goals
    have HT7 := hide (HV6.out.tell hgr7.out hown7.out)
    generalize w7.setCell ⟨V, 4, none⟩ (.slice sa7 (ts.length + 1) sc7) = W7 at HT7 ⊢
    clear c5 c6 c7 z7 hgr7 hown7 hwh7 ho6 hr6 HX c4
    go_wp2_with fail
    go_roundg (N - (k + 1) + 2)
    case measure => omega
    case rel => exact ⟨k + 1, ts ++ [(readS 1000000000 lk fk).1], _, _, _, by go_num, Nat.le_refl _, by omega, by simp [Htk.out], HT7.out, by rw [← HK2.out.1]; simp, HK2.out.2⟩
  ·have d1 : decide ((k : Int) < (N : Int)) = false := by simp; omega
   obtain rfl : k = N := by omega
   have hK1 := hK.out.2
   rw [Nat.sub_self] at hK1
   simp only [toldRF, List.append_nil, Prod.mk.injEq] at hK1
   obtain ⟨rfl, rfl, rfl⟩ := hK1
   have HV := hide hK.out.1
   have x0 := HV.out.var.c0
   have x1 := HV.out.var.c1
   have x2 := HV.out.var.c2
   have x3 := HV.out.var.c3
   have x4 := HV.out.var.c4
   simp only at x0 x1 x2 x3
   obtain ⟨sa, sc, rfl⟩ := owns_form1 HV.out.row
   obtain ⟨s0, g0⟩ := HV.out.croom 0 (by omega)
   obtain ⟨s1, g1⟩ := HV.out.croom 1 (by omega)
   obtain ⟨s2, g2⟩ := HV.out.croom 2 (by omega)
   obtain ⟨s3, g3⟩ := HV.out.croom 3 (by omega)
   obtain ⟨s4, g4⟩ := HV.out.croom 4 (by omega)
   obtain ⟨t0, i0⟩ := Option.isSome_iff_exists.1 s0
   obtain ⟨t1, i1⟩ := Option.isSome_iff_exists.1 s1
   obtain ⟨t2, i2⟩ := Option.isSome_iff_exists.1 s2
   obtain ⟨t3, i3⟩ := Option.isSome_iff_exists.1 s3
   obtain ⟨t4, i4⟩ := Option.isSome_iff_exists.1 s4
   have hcv := HV.out.vge
   clear s0 s1 s2 s3 s4 hK
   go_wp2_with fail
   obtain ⟨WZ, hWZ⟩ : ∃ WZ, WZ = (set4 wr C 0 ⟨v2, t + v1, v3, v4⟩).setCell ⟨C, 4, none⟩ (.slice sa ts.length sc) := ⟨_, rfl⟩
   obtain ⟨t0', t1', t2', t3'⟩ := set4_same wr C 0 4 ⟨v2, t + v1, v3, v4⟩ (fun j hj => HV.out.croom j (by omega)) (by omega)
   have q0 : WZ.cell? ⟨C, 0, none⟩ = some (.int .i64 v2) := by rw [hWZ, World.cell?_setCell_other _ _ _ _ (by simp)]; exact t0'
   have q1 : WZ.cell? ⟨C, 1, none⟩ = some (.int .i64 (t + v1)) := by rw [hWZ, World.cell?_setCell_other _ _ _ _ (by simp)]; exact t1'
   have q2 : WZ.cell? ⟨C, 2, none⟩ = some (.int .i64 v3) := by rw [hWZ, World.cell?_setCell_other _ _ _ _ (by simp)]; exact t2'
   have q3 : WZ.cell? ⟨C, 3, none⟩ = some (.int .i64 v4) := by rw [hWZ, World.cell?_setCell_other _ _ _ _ (by simp)]; exact t3'
   have q4 : WZ.cell? ⟨C, 4, none⟩ = some (.slice sa ts.length sc) := by rw [hWZ]; exact World.cell?_setCell_same' _ _ _ ((HV.out.croom.set4 C 0 ⟨v2, t + v1, v3, v4⟩) 4 (by omega)).1
   have hoZ : Only (· = C) wr WZ := by rw [hWZ]; exact ((Only.refl (· = C) wr).set4 (b := C) (show C = C from rfl) 0 _).setCell (p := ⟨C, 4, none⟩) (show C = C from rfl) _
   have hWZ' := hWZ
   simp only [set4, Nat.zero_add] at hWZ'
   rw [← hWZ']
   clear hWZ hWZ'
   refine bodyPost_ret (v := .agg #[.int .i64 v2, .int .i64 (t + v1), .int .i64 v3, .int .i64 v4, .slice sa ts.length sc]) ?_ rfl ?_
   ·rw [results_cell1 rfl]; simp [go_sem, q0, q1, q2, q3, q4]
   rw [HE.out]
   have hcg := HV.out.cge
   refine ⟨sa, sc, rfl, HV.out.only.chain hoZ (fun i hi hc => by omega), HV.out.rd.only hoZ (by omega) (by omega), owns_mono (owns_keep HV.out.row hoZ ?_) (by omega)⟩
   intro b hb hc
   have := (HV.out.row.lt b hb.symm).1
   omega
def recsRF : Nat → Int → List Int → Bool → List Rec × List Int × Bool
 | 0, _, l, f => ([], l, f)
 | n + 1, t, l, f => ((recRF t l f).1 :: (recsRF n (recRF t l f).1.e.time (recRF t l f).2.1 (recRF t l f).2.2).1, (recsRF n (recRF t l f).1.e.time (recRF t l f).2.1 (recRF t l f).2.2).2)
def decRF (l : List Int) : List Rec × List Int × Bool := recsRF (readF 0 1000 l false).1.toNat 0 (readF 0 1000 l false).2.1 (readF 0 1000 l false).2.2
theorem recRF_time (t : Int) (l : List Int) (f : Bool) (ht : 0 ≤ t ∧ t ≤ 1000000000000) : t ≤ (recRF t l f).1.e.time ∧ (recRF t l f).1.e.time ≤ 1000000000000 := by
 have := readF_le 0 (1000000000000 - t) (by omega) l f
 simp only [recRF]
 omega
theorem rRecs_any (rb g : Nat) (l : List Int) (w : World) (h : RdP w rb g l false) :
  Calls Tryz.prog 70 #[.pointer (some ⟨rb, 0, none⟩)] w fun e w' => ∃ lv L, e = .returned lv ∧ Only (· = rb) w w' ∧ RdP w' rb g (decRF l).2.1 (decRF l).2.2 ∧ AllR w' w.heap.size lv L (decRF l).1 ∧ ApartR L := by
 have H := hide h
 have hrl := h.lt
 have hgl := h.glt
 have g1 := readF_le 0 1000 (by omega) l false
 have HE : Hid (decRF l = recsRF (readF 0 1000 l false).1.toNat 0 (readF 0 1000 l false).2.1 (readF 0 1000 l false).2.2) := by show _ = _; rfl
 generalize decRF l = out at HE ⊢
 generalize hA : readF 0 1000 l false = A at HE g1
 obtain ⟨v1, l1, f1⟩ := A
 simp only at HE g1
 obtain ⟨N, rfl⟩ := Int.eq_ofNat_of_zero_le (show 0 ≤ v1 by omega)
 rw [Int.toNat_natCast] at HE
 have hN : N ≤ 1000 := by omega
 have HA := hide hA
 clear h hA g1
 go_enter Tryz.func70, Tryz.ntmps70
 go_wp2_with fail
 refine (rNum_any rb g l false _ _ w H.out).mono ?_
 rintro e w1 ⟨rfl, ho1, hr1⟩
 rw [HA.out] at hr1 ⊢
 simp only at hr1 ⊢
 have HO1 := hide ho1
 have HR1 := hide hr1
 clear ho1 hr1
 go_wp2_with fail
 go_loopg [3, 4, 8] (N + 3) (fun gf s3 s4 s8 wx => ∃ (i : Nat) (lv : Value) (t : Int) (L : List RecC) (rs : List Rec) (lk : List Int) (fk : Bool), s8 = .int .i64 i ∧ s3 = lv ∧ s4 = .int .i64 t ∧ N - i + 2 ≤ gf ∧ i ≤ N ∧ 0 ≤ t ∧ t ≤ 1000000000000 ∧ Hid (L.length = i ∧ Only (· = rb) w wx ∧ RdP wx rb g lk fk ∧ AllR wx w.heap.size lv L rs ∧ ApartR L ∧ rs ++ (recsRF (N - i) t lk fk).1 = out.1 ∧ (recsRF (N - i) t lk fk).2 = out.2))
 case atStart => exact ⟨0, _, 0, [], [], l1, f1, rfl, rfl, rfl, by omega, by omega, by omega, by omega, rfl, HO1.out, HR1.out, AllR.nil _ _, by intro j k x y b hx; simp at hx, by rw [HE.out]; simp, by rw [HE.out]; simp⟩
 case round =>
  obtain ⟨i, lv, t, L, rs, lk, fk, rfl, rfl, rfl, hgf, hi, ht0, ht1, hI⟩ := hrel
  by_cases hlt : i < N
  ·have d1 : decide ((i : Int) < (N : Int)) = true := by simp; omega
   have hw : IntKind.i64.wrap ((i : Int) + 1) = (i : Int) + 1 := by rw [IntKind.wrap_i64]; omega
   obtain ⟨hLi, hO, hR, hA, hAp, hq1, hq2⟩ := hI.out
   rw [show N - i = (N - (i + 1)) + 1 by omega, recsRF] at hq1 hq2
   simp only at hq1 hq2
   have hLl : L.length + 1 ≤ 1000 := by omega
   have HLi := hide hLi
   have HO := hide hO
   have HR := hide hR
   have HA2 := hide hA
   have HAp := hide hAp
   have Hq1 := hide hq1
   have Hq2 := hide hq2
   have hzr := hO.size
   have htm := recRF_time t lk fk ⟨ht0, ht1⟩
   clear hLi hO hR hA hAp hq1 hq2 hI
   obtain ⟨sa0, sc0, hlv⟩ := owns_form1 HA2.out.row
   subst hlv
   go_wp2_with fail
   refine (rRec_any rb g lk fk t wr HR.out ⟨ht0, ht1⟩).mono ?_
   rintro e w2 ⟨sa, sc, rfl, ho2, hr2, hrow2⟩
   generalize recRF t lk fk = o at Hq1 Hq2 htm hr2 hrow2 ⊢
   obtain ⟨⟨⟨rt, rn, rk, re⟩, told⟩, l2, f2⟩ := o
   simp only at Hq1 Hq2 htm hr2 hrow2 ⊢
   have hz2 := ho2.size
   have HA3 : Hid (AllR w2 w.heap.size (.slice sa0 L.length sc0) L rs) := HA2.out.only ho2 (fun b hb hc => by have := (HA2.out.lt b hb).1; omega)
   have HO2 := hide (HO.out.trans ho2)
   have HR2 := hide hr2
   have Hrow2 := hide hrow2
   clear ho2 hr2 hrow2
   obtain ⟨W3, hW3⟩ : ∃ W3, W3 = (w2.alloc (.cells #[.int .i64 rn, .int .i64 rt, .int .i64 rk, .int .i64 re, .slice sa told.length sc] 46)).alloc (.cells #[.int .i64 rn, .int .i64 rt, .int .i64 rk, .int .i64 re, .slice sa told.length sc] 46) := ⟨_, rfl⟩
   have hb3 : Below w2.heap.size w2 W3 := by rw [hW3]; exact ((Below.refl _ _).alloc (Nat.le_refl _) _).alloc (by simp) _
   have hz3 : W3.heap.size = w2.heap.size + 2 := by rw [hW3]; simp
   have x1 : W3.cell? ⟨w2.heap.size, 1, none⟩ = some (.int .i64 rt) := by rw [hW3]; simp [go_sem]
   have HsR : Hid (RowAt W3 (w2.heap.size + 1) 0 (RecC.cells ⟨⟨rt, rn, rk, re⟩, sa, told.length, sc⟩)) := by
    intro j u hu
    have hj : j < 5 := by have := (List.getElem?_eq_some_iff.1 hu).1; simpa [RecC.cells] using this
    have : j = 0 ∨ j = 1 ∨ j = 2 ∨ j = 3 ∨ j = 4 := by omega
    rcases this with rfl | rfl | rfl | rfl | rfl <;> simp [RecC.cells] at hu <;> subst hu <;> rw [hW3] <;> simp [go_sem]
   have HA4 := hide (HA3.out.only (Only.new (S := fun _ => False) hb3) (by simp))
   have Hrow4 := hide (owns_keep Hrow2.out (Only.new (S := fun _ => False) hb3) (by simp))
   have HB3 := hide hb3
   have hzl : ∀ b, some b = (Value.slice sa0 L.length sc0).ownBlock → b < wr.heap.size := fun b hb => (HA2.out.lt b (.inl hb)).2
   have Hzl := hide hzl
   clear hb3 hzl
   go_wp2_with (at_builtin; rw [← hW3]; refine wpList_append_src rfl (.tmp 13) (.tmp 15) 39 rfl w.heap.size 46 (.agg #[.int .i64 0, .int .i64 0, .int .i64 0, .int .i64 0, .slice none 0 0]) 5 56 Tryz.underlying39 Tryz.infoR rfl (by omega) _ L.length (recCells L) rfl HA4.out.row _ 1 (RecC.cells ⟨⟨rt, rn, rk, re⟩, sa, told.length, sc⟩) rfl (.inr (.inl ⟨w2.heap.size + 1, 0, _, rfl, HsR.out⟩)) rfl ?_ (by omega) (by omega) (by omega) ?_)
   ·intro u hu
    simp [RecC.cells] at hu
    rcases hu with rfl | rfl | rfl | rfl | rfl <;> rfl
   intro v5 w5 hown5 hgr5 hwh5
   rw [← hW3] at hgr5
   have hwh6 : v5.ownBlock = (Value.slice sa0 L.length sc0).ownBlock ∨ v5.ownBlock = some W3.heap.size := by rw [hz3]; exact hwh5.out
   have ho5 := only_of_grown hgr5.out
   have hnl : ∀ b, some b = (Value.slice sa0 L.length sc0).ownBlock → w.heap.size ≤ b ∧ b < wr.heap.size := fun b hb => ⟨(HA4.out.lt b (.inl hb)).1, Hzl.out b hb⟩
   have y1 := ho5.at x1 (fun hc => by have := hnl _ hc; omega)
   have HA5 : Hid (AllR w5 w.heap.size v5 (L ++ [⟨⟨rt, rn, rk, re⟩, sa, told.length, sc⟩]) (rs ++ [⟨⟨rt, rn, rk, re⟩, told⟩])) :=
    HA4.out.snoc (x := ⟨⟨rt, rn, rk, re⟩, sa, told.length, sc⟩) (r := ⟨⟨rt, rn, rk, re⟩, told⟩) rfl rfl (owns_mono Hrow4.out hzr) hgr5.out hown5.out hwh6 (fun b hb hc => by have := (Hrow4.out.lt b hb.symm).1; have := Hzl.out b hc; omega)
   have HAp5 : Hid (ApartR (L ++ [⟨⟨rt, rn, rk, re⟩, sa, told.length, sc⟩])) := HAp.out.snoc HA2.out (fun b hb => (Hrow4.out.lt b hb.symm).1)
   have HO5 : Hid (Only (· = rb) w w5) := (HO2.out.trans (Only.new HB3.out)).chain ho5 (fun k hk hc => by have := hnl _ hc; omega)
   have HR5 : Hid (RdP w5 rb g l2 f2) := (HR2.out.only (Only.new (S := fun _ => False) HB3.out) (by simp) (by simp)).only ho5 (fun hc => by have := hnl _ hc; omega) (fun hc => by have := hnl _ hc; omega)
   obtain ⟨sa5, sc5, rfl⟩ := owns_form1 hown5.out
   clear ho5 x1 hW3 hgr5 hown5 hwh5 hwh6 hnl
   go_wp2_with fail
   go_roundg (N - (i + 1) + 2)
   case measure => omega
   case rel => exact ⟨i + 1, _, rt, _, _, l2, f2, by go_num, rfl, rfl, Nat.le_refl _, by omega, by omega, by omega, by simp [HLi.out], HO5.out, HR5.out, HA5.out, HAp5.out, by rw [← Hq1.out]; simp, Hq2.out⟩
  ·have d1 : decide ((i : Int) < (N : Int)) = false := by simp; omega
   obtain ⟨hLi, hO, hR, hA, hAp, hq1, hq2⟩ := hI.out
   rw [show N - i = 0 by omega] at hq1 hq2
   simp only [recsRF, List.append_nil] at hq1 hq2
   obtain ⟨o1, o2, o3⟩ := out
   simp only [Prod.mk.injEq] at hq1 hq2
   obtain ⟨rfl, rfl⟩ := hq2
   subst hq1
   have HO := hide hO
   have HR := hide hR
   have HA2 := hide hA
   have HAp := hide hAp
   clear hLi hO hR hA hAp hI
   go_wp2_with fail
   go_ret
   exact ⟨_, rfl, HO.out, HR.out, L, HA2.out, HAp.out⟩
structure BytesV (w : World) (sa : Option Addr) (cap : Nat) (l : List Int) : Prop where
 len : l.length ≤ 1000000000000000
 cap_ : l.length ≤ cap
 bytes : ∀ b ∈ l, 0 ≤ b ∧ b < 256
 row : 8 ≤ l.length → ∃ g off, sa = some ⟨g, off, none⟩ ∧ RowAt w g off (byteV l) ∧ g < w.heap.size
theorem BytesV.below {w w' : World} {sa : Option Addr} {cap : Nat} {l : List Int} (h : BytesV w sa cap l) (hb : Below w.heap.size w w') : BytesV w' sa cap l := by
 refine ⟨h.len, h.cap_, h.bytes, fun h8 => ?_⟩
 obtain ⟨g, off, rfl, h1, h2⟩ := h.row h8
 exact ⟨g, off, rfl, h1.below hb h2, Nat.lt_of_lt_of_le h2 hb.size⟩
theorem BytesV.glt {w : World} {g off cap : Nat} {l : List Int} (h : BytesV w (some ⟨g, off, none⟩) cap l) (h8 : 8 ≤ l.length) : g < w.heap.size := by
 obtain ⟨g', off', e, _, h2⟩ := h.row h8
 simp only [Option.some.injEq, Addr.mk.injEq] at e
 omega
theorem openAny (sa : Option Addr) (cap : Nat) (hd l : List Int) (w : World) (h : BytesV w sa cap l) (s : ByteArray) (hs : s = strW hd) (hhl : hd.length = 4) (hhb : ∀ b ∈ hd, 0 ≤ b ∧ b < 256) :
  Calls Tryz.prog 64 #[.string s, .slice sa l.length cap] w fun e w' => ∃ p, e = .returned (.tuple #[.pointer p, .int .i64 (openE hd l)]) ∧ Below w.heap.size w w' ∧ (openE hd l ≠ 0 → p = none) ∧ (openE hd l = 0 → ∃ rb g, p = some ⟨rb, 0, none⟩ ∧ w.heap.size ≤ rb ∧ (∃ off, sa = some ⟨g, off, none⟩) ∧ RdP w' rb g (openL l) false) := by
 by_cases h8 : l.length < 8
 ·have hE : openE hd l = 4 := by unfold openE; rw [if_pos (.inl h8)]
  rw [hE]
  refine (open_short sa l.length cap s w (by rw [hs]; simp [strW, ByteArray.size, hhl]) h8).mono ?_
  rintro e w' ⟨rfl, hb⟩
  exact ⟨none, rfl, hb, fun _ => rfl, fun h => by cases h⟩
 ·obtain ⟨g, off, rfl, h1, h2⟩ := h.row (by omega)
  refine (open_any g off cap hd l w h1 h.cap_ h.bytes h.len s hs hhl hhb h2).mono ?_
  rintro e w' ⟨p, rfl, hb, h3, h4⟩
  refine ⟨p, rfl, hb, h3, fun h0 => ?_⟩
  obtain ⟨rb, h5, h6, h7⟩ := h4 h0
  exact ⟨rb, g, h5, h6, ⟨off, rfl⟩, h7⟩
def decOk (l : List Int) : Bool := !(decRF l).2.2 && (decRF l).2.1.isEmpty
def decE (l : List Int) : Int := if openE [84, 77, 82, 1] l ≠ 0 then openE [84, 77, 82, 1] l else if decOk (openL l) then 0 else 4
theorem decode_any (sa : Option Addr) (cap : Nat) (l : List Int) (w : World) (h : BytesV w sa cap l) :
  Calls Tryz.prog 34 #[.slice sa l.length cap] w fun e w' => ∃ v, e = .returned (.tuple #[v, .int .i64 (decE l)]) ∧ Below w.heap.size w w' ∧ (decE l ≠ 0 → v = .slice none 0 0) ∧ (decE l = 0 → ∃ L, AllR w' w.heap.size v L (decRF (openL l)).1 ∧ ApartR L) := by
 have H := hide h
 have HE : Hid (decE l = if openE [84, 77, 82, 1] l ≠ 0 then openE [84, 77, 82, 1] l else if decOk (openL l) then 0 else 4) := by show _ = _; rfl
 clear h
 go_enter Tryz.func34, Tryz.ntmps34
 go_wp2_with fail
 refine (openAny sa cap [84, 77, 82, 1] l w H.out _ ?_ rfl (by intro b hb; simp at hb; omega)).mono ?_
 ·rfl
 rintro e w1 ⟨p, rfl, hb1, hp1, hp2⟩
 have HB1 := hide hb1
 have hz1 := hb1.size
 by_cases h0 : openE [84, 77, 82, 1] l = 0
 ·obtain ⟨rb, g, rfl, h1r, h1g, hrd⟩ := hp2 h0
  have HR := hide hrd
  rw [h0] at HE ⊢
  simp only [ne_eq, not_true_eq_false, if_false] at HE
  clear hp1 hp2 hrd hb1
  go_wp2_with fail
  refine (rRecs_any rb g (openL l) w1 HR.out).mono ?_
  rintro e w2 ⟨lv, L, rfl, ho2, hr2, hA2, hAp⟩
  have hz2 := ho2.size
  obtain ⟨sa2, sc2, hlv⟩ := owns_form1 hA2.row
  subst hlv
  have HR2 := hide hr2
  have HA2 := hide hA2
  have HAp := hide hAp
  have HB2 : Hid (Below w.heap.size w w2) := HB1.out.trans (ho2.below hz1 (fun k hk hc => by omega))
  clear ho2 hr2 hA2 hAp
  go_wp2_with fail
  refine (rEnd_any rb g _ _ w2 HR2.out).mono ?_
  rintro e w3 ⟨rfl, hb3⟩
  have HB3 : Hid (Below w.heap.size w w3) := HB2.out.trans (hb3.mono (by omega))
  have HA3 := hide (HA2.out.only (Only.new (S := fun _ => False) hb3) (by simp))
  have hdo : (!(decRF (openL l)).2.2 && (decRF (openL l)).2.1.isEmpty) = decOk (openL l) := rfl
  rw [hdo]
  clear hb3 hdo
  rcases hok : decOk (openL l) with _ | _
  ·have hE : decE l = 4 := by rw [HE.out, hok]; rfl
   go_wp2_with fail
   go_ret2
   rw [hE]
   exact ⟨_, rfl, HB3.out, fun _ => rfl, fun h => by cases h⟩
  ·have hE : decE l = 0 := by rw [HE.out, hok]; rfl
   go_wp2_with fail
   go_ret2
   rw [hE]
   refine ⟨_, rfl, HB3.out, fun h => absurd rfl h, fun _ => ⟨L, ?_, HAp.out⟩⟩
   have := HA3.out
   obtain ⟨h1, h2, h3, h4⟩ := this
   refine ⟨h1, owns_mono h2 hz1, fun j x r hx hr => ?_, h4⟩
   obtain ⟨q1, q2, q3⟩ := h3 j x r hx hr
   exact ⟨q1, q2, owns_mono q3 hz1⟩
 ·obtain rfl := hp1 h0
  have d0 : (openE [84, 77, 82, 1] l != 0) = true := by simpa using h0
  have hE : decE l = openE [84, 77, 82, 1] l := by rw [HE.out, if_pos h0]
  have HE2 := hide hE
  clear hp1 hp2 hb1 HE hE
  go_wp2_with fail
  go_ret2
  rw [HE2.out]
  exact ⟨_, rfl, HB1.out, fun _ => rfl, fun h => absurd h h0⟩
end Go.Proofs.YtndlmgocldckfaaGreat
