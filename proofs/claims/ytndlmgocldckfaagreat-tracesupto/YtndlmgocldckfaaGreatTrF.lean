import Derived.Test.YtndlmgocldckfaaGreatG03
import Derived.Deep.LoopGhost
namespace Go.Proofs.YtndlmgocldckfaaGreat
open Go.RowKit
set_option linter.unusedVariables false
set_option linter.unusedSimpArgs false
set_option maxRecDepth 100000
set_option maxHeartbeats 4000000
attribute [local go_sem] eqlNilI
structure RcAt (w : World) (g o : Nat) (r : Rec) (v : Value) : Prop where
 c0 : w.cell? ⟨g, o, none⟩ = some (.int .i64 r.e.number)
 c1 : w.cell? ⟨g, o + 1, none⟩ = some (.int .i64 r.e.time)
 c2 : w.cell? ⟨g, o + 2, none⟩ = some (.int .i64 r.e.kind)
 c3 : w.cell? ⟨g, o + 3, none⟩ = some (.int .i64 r.e.entity)
 c4 : w.cell? ⟨g, o + 4, none⟩ = some v
theorem RcAt.only {S : Nat → Prop} {w w' : World} {g o : Nat} {r : Rec} {v : Value} (h : RcAt w g o r v) (ho : Only S w w') (hn : ¬ S g) : RcAt w' g o r v :=
 ⟨ho.at h.c0 hn, ho.at h.c1 hn, ho.at h.c2 hn, ho.at h.c3 hn, ho.at h.c4 hn⟩
theorem RcAt.below {B : Nat} {w w' : World} {g o : Nat} {r : Rec} {v : Value} (h : RcAt w g o r v) (hb : Below B w w') (hg : g < B) : RcAt w' g o r v :=
 ⟨below_at hb h.c0 hg, below_at hb h.c1 hg, below_at hb h.c2 hg, below_at hb h.c3 hg, below_at hb h.c4 hg⟩
theorem IntsX.told {B : Nat} {w : World} {sa : Option Addr} {sc n : Nat} {l : List Int} (h : IntsX B w (.slice sa n sc) l) : ToldIn w sa l := by
 intro k t ht
 obtain ⟨_, ⟨_, rfl⟩ | ⟨b, off, cap, e, _, hr⟩⟩ | ⟨a, c, e, rfl⟩ := h
 ·simp at ht
 ·simp only [Value.slice.injEq] at e
  exact ⟨b, off, e.1, hr k (.int .i64 t) (by simp [ints, ht])⟩
 ·simp at ht
theorem LentV.told {lo : Nat} {w : World} {v : Value} {sa : Option Addr} {sc : Nat} {l : List Int} (h : LentV lo w v sa sc l) : ToldIn w sa l := by
 intro k t ht
 rcases h with ⟨_, rfl, rfl, rfl⟩ | ⟨g, rfl, rfl, _, _, _, h6, _⟩
 ·simp at ht
 ·exact ⟨g, 0, rfl, lentI_row h6 k (.int .i64 t) (by simp [Go.Proofs.YtndlmgocldckfaaGreat.ints, ht])⟩
def RecsAtX (B : Nat) (w : World) (b off : Nat) (rs : List Rec) : Prop := ∀ (i : Nat) r, rs[i]? = some r → ∃ v, RcAt w b (off + i * 5) r v ∧ IntsX B w v r.told
def RecsX (B : Nat) (w : World) (v : Value) (rs : List Rec) : Prop := rs.length ≤ 1048576 ∧ ((v = .slice none 0 0 ∧ rs = []) ∨ ∃ a b off cap, v = .slice (some a) rs.length cap ∧ (0 < rs.length → a = ⟨b, off, none⟩ ∧ b < B) ∧ RecsAtX B w b off rs)
theorem RecsAtX.below {B : Nat} {w w' : World} {b off : Nat} {rs : List Rec} (h : RecsAtX B w b off rs) (hb : Below B w w') (hl : 0 < rs.length → b < B) : RecsAtX B w' b off rs := by
 intro i r hr
 obtain ⟨v, h1, h2⟩ := h i r hr
 exact ⟨v, h1.below hb (hl (by have := (List.getElem?_eq_some_iff.1 hr).1; omega)), h2.below hb⟩
theorem RecsAtX.mono {B B' : Nat} {w : World} {b off : Nat} {rs : List Rec} (h : RecsAtX B w b off rs) (hB : B ≤ B') : RecsAtX B' w b off rs := by
 intro i r hr
 obtain ⟨v, h1, h2⟩ := h i r hr
 exact ⟨v, h1, h2.mono hB⟩
theorem RecsX.below {B : Nat} {w w' : World} {v : Value} {rs : List Rec} (h : RecsX B w v rs) (hb : Below B w w') : RecsX B w' v rs := by
 obtain ⟨h0, h | ⟨a, b, off, cap, h1, h2, h4⟩⟩ := h
 ·exact ⟨h0, .inl h⟩
 ·exact ⟨h0, .inr ⟨a, b, off, cap, h1, h2, h4.below hb (fun hp => (h2 hp).2)⟩⟩
theorem RecsX.mono {B B' : Nat} {w : World} {v : Value} {rs : List Rec} (h : RecsX B w v rs) (hB : B ≤ B') : RecsX B' w v rs := by
 obtain ⟨h0, h | ⟨a, b, off, cap, h1, h2, h4⟩⟩ := h
 ·exact ⟨h0, .inl h⟩
 ·exact ⟨h0, .inr ⟨a, b, off, cap, h1, fun hp => ⟨(h2 hp).1, by have := (h2 hp).2; omega⟩, h4.mono hB⟩⟩
theorem RecsX.recIn {B : Nat} {w : World} {v : Value} {rs : List Rec} (h : RecsX B w v rs) : ∃ a cap, v = .slice a rs.length cap ∧ RecIn w a rs := by
 obtain ⟨h0, ⟨rfl, rfl⟩ | ⟨a, b, off, cap, rfl, h2, h4⟩⟩ := h
 ·exact ⟨none, 0, rfl, fun i r hr => by simp at hr⟩
 ·refine ⟨some a, cap, rfl, fun i r hr => ?_⟩
  obtain ⟨v, c, hi⟩ := h4 i r hr
  obtain ⟨sa, sc, rfl⟩ := hi.form
  exact ⟨b, off, sa, sc, by rw [(h2 (by have := (List.getElem?_eq_some_iff.1 hr).1; omega)).1], c.c0, c.c1, c.c2, c.c3, c.c4, hi.told⟩
theorem RecsX.toldLen {B : Nat} {w : World} {v : Value} {rs : List Rec} (h : RecsX B w v rs) : ∀ r ∈ rs, r.told.length ≤ 17592186044416 := by
 intro r hr
 obtain ⟨i, hi⟩ := List.getElem?_of_mem hr
 obtain ⟨h0, ⟨rfl, rfl⟩ | ⟨a, b, off, cap, rfl, h2, h4⟩⟩ := h
 ·simp at hr
 ·obtain ⟨v, c, hv⟩ := h4 i r hi
  exact hv.len
def put5 (w : World) (g o : Nat) (r : Rec) (v : Value) : World := ((((w.setCell ⟨g, o, none⟩ (.int .i64 r.e.number)).setCell ⟨g, o + 1, none⟩ (.int .i64 r.e.time)).setCell ⟨g, o + 2, none⟩ (.int .i64 r.e.kind)).setCell ⟨g, o + 3, none⟩ (.int .i64 r.e.entity)).setCell ⟨g, o + 4, none⟩ v
theorem put5_only (w : World) (g o : Nat) (r : Rec) (v : Value) : Only (· = g) w (put5 w g o r v) :=
 (((((Only.refl (· = g) w).setCell rfl _).setCell rfl _).setCell rfl _).setCell rfl _).setCell rfl _
theorem put5_room {w : World} {b n : Nat} (h : Room w b n) (g o : Nat) (r : Rec) (v : Value) : Room (put5 w g o r v) b n :=
 ((((h.setCell _ _).setCell _ _).setCell _ _).setCell _ _).setCell _ _
theorem put5_size (w : World) (g o : Nat) (r : Rec) (v : Value) : (put5 w g o r v).heap.size = w.heap.size := by simp [put5, World.setCell]
theorem put5_other (w : World) (g o : Nat) (r : Rec) (v : Value) (b j : Nat) (h : b ≠ g ∨ j < o ∨ o + 5 ≤ j) : (put5 w g o r v).cell? ⟨b, j, none⟩ = w.cell? ⟨b, j, none⟩ := by
 unfold put5
 rw [World.cell?_setCell_other _ _ _ _ (by simp; omega), World.cell?_setCell_other _ _ _ _ (by simp; omega), World.cell?_setCell_other _ _ _ _ (by simp; omega), World.cell?_setCell_other _ _ _ _ (by simp; omega), World.cell?_setCell_other _ _ _ _ (by simp; omega)]
theorem put5_at {w : World} {g n : Nat} (h : Room w g n) (o : Nat) (ho : o + 5 ≤ n) (r : Rec) (v : Value) : RcAt (put5 w g o r v) g o r v := by
 unfold put5
 refine ⟨?_, ?_, ?_, ?_, ?_⟩
 ·rw [World.cell?_setCell_other _ _ _ _ (by simp), World.cell?_setCell_other _ _ _ _ (by simp), World.cell?_setCell_other _ _ _ _ (by simp), World.cell?_setCell_other _ _ _ _ (by simp)]
  exact World.cell?_setCell_same' _ _ _ (h o (by omega)).1
 ·rw [World.cell?_setCell_other _ _ _ _ (by simp), World.cell?_setCell_other _ _ _ _ (by simp), World.cell?_setCell_other _ _ _ _ (by simp)]
  exact World.cell?_setCell_same' _ _ _ ((h.setCell _ _) (o + 1) (by omega)).1
 ·rw [World.cell?_setCell_other _ _ _ _ (by simp), World.cell?_setCell_other _ _ _ _ (by simp)]
  exact World.cell?_setCell_same' _ _ _ (((h.setCell _ _).setCell _ _) (o + 2) (by omega)).1
 ·rw [World.cell?_setCell_other _ _ _ _ (by simp)]
  exact World.cell?_setCell_same' _ _ _ ((((h.setCell _ _).setCell _ _).setCell _ _) (o + 3) (by omega)).1
 ·exact World.cell?_setCell_same' _ _ _ (((((h.setCell _ _).setCell _ _).setCell _ _).setCell _ _) (o + 4) (by omega)).1
structure LentR (lo hi : Nat) (w : World) (g h b off k : Nat) (ss : List (Option Addr × Nat)) (rs : List Rec) : Prop where
 len : ss.length = k
 le : k ≤ rs.length
 row : ∀ (i : Nat) s r, ss[i]? = some s → rs[i]? = some r → RcAt w g (i * 5) r (.slice s.1 r.told.length s.2) ∧ w.cell? ⟨h, i, none⟩ = some (.slice s.1 r.told.length s.2)
 room : Room w g ((rs.length + 8) * 5)
 roomh : Room w h rs.length
 orig : ∀ (i : Nat) r, rs[i]? = some r → ∃ v, RcAt w b (off + i * 5) r v ∧ IntsX lo w v r.told ∧ ∀ s, ss[i]? = some s → LentV hi w v s.1 s.2 r.told
 sep : ∀ (i : Nat) s c, ss[i]? = some s → s.1 = some ⟨c, 0, none⟩ → c ≠ g ∧ c ≠ h ∧ hi ≤ c ∧ c < w.heap.size
 apart : ∀ (i j : Nat) s s' c, ss[i]? = some s → ss[j]? = some s' → s.1 = some ⟨c, 0, none⟩ → s'.1 = some ⟨c, 0, none⟩ → i = j
 lohi : lo ≤ hi
 glo : hi ≤ g
 hlo : hi ≤ h
 ghi : g < w.heap.size
 hhi : h < w.heap.size
 gh : g ≠ h
 blo : b < lo
theorem LentR.only {S : Nat → Prop} {lo hi : Nat} {w w' : World} {g h b off k : Nat} {ss : List (Option Addr × Nat)} {rs : List Rec} (x : LentR lo hi w g h b off k ss rs) (ho : Only S w w') (hS : ∀ k, S k → lo ≤ k ∧ k < hi) : LentR lo hi w' g h b off k ss rs := by
 have hsz := ho.size
 have nhi : ∀ c, hi ≤ c → ¬ S c := fun c hc hs => by have := hS c hs; omega
 have nlo : ∀ c, c < lo → ¬ S c := fun c hc hs => by have := hS c hs; omega
 have hlt : lo ≤ w.heap.size := by have := x.lohi; have := x.glo; have := x.ghi; omega
 refine ⟨x.len, x.le, ?_, x.room.only ho (nhi _ x.glo), x.roomh.only ho (nhi _ x.hlo), ?_, ?_, x.apart, x.lohi, x.glo, x.hlo, by have := x.ghi; omega, by have := x.hhi; omega, x.gh, x.blo⟩
 ·intro i s r hs hr
  obtain ⟨h1, h2⟩ := x.row i s r hs hr
  exact ⟨h1.only ho (nhi _ x.glo), ho.at h2 (nhi _ x.hlo)⟩
 ·intro i r hr
  obtain ⟨v, h1, h2, h3⟩ := x.orig i r hr
  exact ⟨v, h1.only ho (nlo _ x.blo), h2.below (ho.below hlt nlo), fun s hs => (h3 s hs).only ho nhi⟩
 ·intro i s c hs hc
  obtain ⟨h1, h2, h3, h4⟩ := x.sep i s c hs hc
  exact ⟨h1, h2, h3, by omega⟩
theorem LentR.below {lo hi : Nat} {w w' : World} {g h b off k : Nat} {ss : List (Option Addr × Nat)} {rs : List Rec} (x : LentR lo hi w g h b off k ss rs) (hb : Below w.heap.size w w') : LentR lo hi w' g h b off k ss rs :=
 x.only (Only.new (S := fun _ => False) hb) (by simp)
theorem LentR.recIn {lo hi : Nat} {w : World} {g h b off : Nat} {ss : List (Option Addr × Nat)} {rs : List Rec} (x : LentR lo hi w g h b off rs.length ss rs) : RecIn w (some ⟨g, 0, none⟩) rs := by
 intro i r hr
 have hi : i < rs.length := (List.getElem?_eq_some_iff.1 hr).1
 have hs : ss[i]? = some (ss[i]'(by rw [x.len]; exact hi)) := List.getElem?_eq_getElem _
 generalize ss[i]'(by rw [x.len]; exact hi) = s at hs
 obtain ⟨c, _⟩ := x.row i s r hs hr
 obtain ⟨v, _, _, h3⟩ := x.orig i r hr
 refine ⟨g, 0, s.1, s.2, rfl, ?_, ?_, ?_, ?_, ?_, (h3 s hs).told⟩
 ·rw [Nat.zero_add]; exact c.c0
 ·rw [Nat.zero_add]; exact c.c1
 ·rw [Nat.zero_add]; exact c.c2
 ·rw [Nat.zero_add]; exact c.c3
 ·rw [Nat.zero_add]; exact c.c4
theorem LentR.step {lo hi : Nat} {w : World} {g h b off k : Nat} {ss : List (Option Addr × Nat)} {rs : List Rec} (x : LentR lo hi w g h b off k ss rs) (hk : k < rs.length) {v : Value} {sa : Option Addr} {sc m : Nat} (hv : w.cell? ⟨b, off + k * 5 + 4, none⟩ = some v) (hl : LentV m w v sa sc rs[k].told) (hm : hi ≤ m) (hf : ∀ c, sa = some ⟨c, 0, none⟩ → c ≠ g ∧ c ≠ h ∧ ∀ (i : Nat) s, ss[i]? = some s → s.1 ≠ some ⟨c, 0, none⟩) (v0 : Value) :
  LentR lo hi (((put5 w g (k * 5) rs[k] v0).setCell ⟨g, k * 5 + 4, none⟩ (.slice sa rs[k].told.length sc)).setCell ⟨h, k, none⟩ (.slice sa rs[k].told.length sc)) g h b off (k + 1) (ss ++ [(sa, sc)]) rs := by
 have hgh := x.gh
 have hlohi := x.lohi
 have hblo := x.blo
 have hglo := x.glo
 have hhlo := x.hlo
 have e1 : put5 w g (k * 5) rs[k] v0 = put5 w g (k * 5) rs[k] v0 := rfl
 obtain ⟨w', hw'⟩ : ∃ w', w' = ((put5 w g (k * 5) rs[k] v0).setCell ⟨g, k * 5 + 4, none⟩ (.slice sa rs[k].told.length sc)).setCell ⟨h, k, none⟩ (.slice sa rs[k].told.length sc) := ⟨_, rfl⟩
 rw [← hw']
 have ho : Only (fun c => c = g ∨ c = h) w w' := by
  rw [hw']
  exact (((put5_only w g (k * 5) rs[k] v0).mono (fun c _ hc => .inl hc)).setCell (.inl rfl) _).setCell (.inr rfl) _
 have hsz : w'.heap.size = w.heap.size := by rw [hw']; simp [World.setCell, put5]
 have other : ∀ (b' o' : Nat), (b' ≠ g ∨ o' < k * 5 ∨ k * 5 + 5 ≤ o') → (b' ≠ h ∨ o' ≠ k) → w'.cell? ⟨b', o', none⟩ = w.cell? ⟨b', o', none⟩ := by
  intro b' o' h1 h2
  rw [hw', World.cell?_setCell_other _ _ _ _ (by simp; try omega), World.cell?_setCell_other _ _ _ _ (by simp; try omega)]
  exact put5_other _ _ _ _ _ _ _ h1
 have hroom : Room w' g ((rs.length + 8) * 5) := by rw [hw']; exact ((put5_room x.room _ _ _ _).setCell _ _).setCell _ _
 have hroomh : Room w' h rs.length := by rw [hw']; exact ((put5_room x.roomh _ _ _ _).setCell _ _).setCell _ _
 have hnew : RcAt w' g (k * 5) rs[k] (.slice sa rs[k].told.length sc) := by
  have h0 := put5_at x.room (k * 5) (by omega) rs[k] v0
  have hc : ∀ (j : Nat) u, j < k * 5 + 4 → (put5 w g (k * 5) rs[k] v0).cell? ⟨g, j, none⟩ = some u → w'.cell? ⟨g, j, none⟩ = some u := by
   intro j u hj hu
   rw [hw', World.cell?_setCell_other _ _ _ _ (by simp; try omega), World.cell?_setCell_other _ _ _ _ (by simp; try omega)]
   exact hu
  refine ⟨hc _ _ (by omega) h0.c0, hc _ _ (by omega) h0.c1, hc _ _ (by omega) h0.c2, hc _ _ (by omega) h0.c3, ?_⟩
  rw [hw', World.cell?_setCell_other _ _ _ _ (by simp; try omega)]
  exact World.cell?_setCell_same' _ _ _ ((put5_room x.room _ _ _ _) (k * 5 + 4) (by omega)).1
 have hnewh : w'.cell? ⟨h, k, none⟩ = some (.slice sa rs[k].told.length sc) := by
  rw [hw']
  exact World.cell?_setCell_same' _ _ _ (((put5_room x.roomh _ _ _ _).setCell _ _) k hk).1
 have hkr : ∀ r, rs[k]? = some r → r = rs[k] := fun r hr => by rw [List.getElem?_eq_getElem hk] at hr; exact (Option.some.inj hr).symm
 have look : ∀ (i : Nat) s, (ss ++ [(sa, sc)])[i]? = some s → (i < k ∧ ss[i]? = some s) ∨ (i = k ∧ s = (sa, sc)) := by
  intro i s hs
  by_cases hi : i < k
  ·rw [List.getElem?_append_left (by rw [x.len]; exact hi)] at hs; exact .inl ⟨hi, hs⟩
  ·rw [List.getElem?_append_right (by rw [x.len]; omega), x.len] at hs
   have : i - k = 0 := by
    have := (List.getElem?_eq_some_iff.1 hs).1
    simp at this; omega
   rw [this] at hs
   simp at hs
   exact .inr ⟨by omega, hs.symm⟩
 have hlt : ∀ c, sa = some ⟨c, 0, none⟩ → m ≤ c ∧ c < w.heap.size := by
  intro c hc
  rcases hl with ⟨_, e, _, _⟩ | ⟨g', e, _, _, e1, e2, _, _⟩
  ·rw [e] at hc; cases hc
  ·rw [e] at hc
   simp only [Option.some.injEq, Addr.mk.injEq, and_true] at hc
   omega
 refine ⟨by simp [x.len], by omega, ?_, hroom, hroomh, ?_, ?_, ?_, hlohi, hglo, hhlo, by rw [hsz]; exact x.ghi, by rw [hsz]; exact x.hhi, hgh, hblo⟩
 ·intro i s r hs hr
  rcases look i s hs with ⟨hi, hs'⟩ | ⟨rfl, rfl⟩
  ·obtain ⟨c, h2⟩ := x.row i s r hs' hr
   exact ⟨⟨(other g _ (by omega) (by omega)).trans c.c0, (other g _ (by omega) (by omega)).trans c.c1, (other g _ (by omega) (by omega)).trans c.c2, (other g _ (by omega) (by omega)).trans c.c3, (other g _ (by omega) (by omega)).trans c.c4⟩, (other h i (by omega) (by omega)).trans h2⟩
  ·rw [hkr r hr]
   exact ⟨hnew, hnewh⟩
 ·intro i r hr
  obtain ⟨v', h1, h2, h3⟩ := x.orig i r hr
  have hbg : ¬ (b = g ∨ b = h) := by omega
  refine ⟨v', h1.only ho hbg, h2.below (ho.below (by have := x.ghi; omega) (fun c hc => by omega)), fun s hs => ?_⟩
  have kp : ∀ {u : Value} {s1 : Option Addr} {s2 : Nat} {tl : List Int} {m' : Nat}, LentV m' w u s1 s2 tl → (∀ c, s1 = some ⟨c, 0, none⟩ → c ≠ g ∧ c ≠ h) → LentV m' w' u s1 s2 tl := by
   intro u s1 s2 tl m' hL hsep
   rcases hL with hL | ⟨c, q1, q2, q3, q4, q5, q6, q7⟩
   ·exact .inl hL
   ·have hn : ¬ (c = g ∨ c = h) := by have := hsep c q1; omega
    exact .inr ⟨c, q1, q2, q3, q4, by omega, q6.only ho hn, q7.only ho hn⟩
  rcases look i s hs with ⟨hi, hs'⟩ | ⟨rfl, rfl⟩
  ·exact kp (h3 s hs') (fun c hc => ⟨(x.sep i s c hs' hc).1, (x.sep i s c hs' hc).2.1⟩)
  ·have : v' = v := by have := h1.c4; rw [hv] at this; exact (Option.some.inj this).symm
   subst this
   rw [hkr r hr]
   have := kp hl (fun c hc => ⟨(hf c hc).1, (hf c hc).2.1⟩)
   rcases this with hL | ⟨c, q1, q2, q3, q4, q5, q6, q7⟩
   ·exact .inl hL
   ·exact .inr ⟨c, q1, q2, q3, by omega, q5, q6, q7⟩
 ·intro i s c hs hc
  rw [hsz]
  rcases look i s hs with ⟨hi, hs'⟩ | ⟨rfl, rfl⟩
  ·exact x.sep i s c hs' hc
  ·have := hf c hc
   have := hlt c hc
   exact ⟨by omega, by omega, by omega, by omega⟩
 ·intro i j s s' c hi hj hc hc'
  rcases look i s hi with ⟨hi1, hi'⟩ | ⟨hi1, hi'⟩ <;> rcases look j s' hj with ⟨hj1, hj'⟩ | ⟨hj1, hj'⟩
  ·exact x.apart i j s s' c hi' hj' hc hc'
  ·subst hj'; exact absurd hc ((hf c hc').2.2 i s hi')
  ·subst hi'; exact absurd hc' ((hf c hc).2.2 j s' hj')
  ·omega
theorem wholeOne_gen (ad : Addr) (b off cap g : Nat) (l : List Int) (w : World) (had : 0 < l.length → ad = ⟨b, off, none⟩) (hl : l.length ≤ 17592186044416) (hc : RowAt w b off (ints l)) (hbg : b ≠ g) (hr : RowAt w g 0 (lentI l)) (hm : Room w g (l.length + 8)) :
  Calls Tryz.prog 28 #[.slice (some ⟨g, 0, none⟩) l.length (l.length + 8), .slice (some ad) l.length cap] w fun e w' => e = .returned (.bool true) ∧ Only (· = g) w w' ∧ w'.cell? ⟨g, 0, none⟩ = some (.int .i64 1) := by
 go_enter Tryz.func28, Tryz.ntmps28
 go_wp2
 go_loopw [7, 8, 9] (fun ok i _ wr => ∃ k : Nat, k ≤ l.length + 8 ∧ i = .int .i64 k ∧ ok = .bool true ∧ Only (· = g) w wr ∧ RowAt wr g k ((lentI l).drop k) ∧ Room wr g (l.length + 8) ∧ Hid (0 < k → wr.cell? ⟨g, 0, none⟩ = some (.int .i64 1))) (fun _ i _ _ => l.length + 8 - (intOf i).toNat)
 case atStart => exact ⟨0, by omega, rfl, rfl, Only.refl _ _, by simpa using hr, hm, fun h => by omega⟩
 case round =>
  obtain ⟨k, hk, rfl, rfl, hon, hrw, hrm, h1⟩ := hrel
  by_cases hlt : k < l.length + 8
  ·obtain ⟨hs, hf⟩ := hrm k hlt
   have hnext : RowAt (wr.setCell ⟨g, k, none⟩ (.int .i64 1)) g (k + 1) ((lentI l).drop (k + 1)) := by
    intro j v hv
    rw [World.cell?_setCell_other _ _ _ _ (by simp; try omega)]
    have := hrw (j + 1) v (by rw [List.getElem?_drop] at hv ⊢; rw [← hv]; congr 1; omega)
    rw [← this]; congr 2; omega
   have Hn := hide hnext
   have H1 : Hid ((wr.setCell ⟨g, k, none⟩ (.int .i64 1)).cell? ⟨g, 0, none⟩ = some (.int .i64 1)) := by
    show _ = _
    by_cases hk0 : k = 0
    ·subst hk0
     exact World.cell?_setCell_same' _ _ _ hs
    ·rw [World.cell?_setCell_other _ _ _ _ (by simp; try omega)]
     exact h1.out (by omega)
   clear hnext hr hm h1
   by_cases hl2 : k < l.length
   ·obtain rfl := had (by omega)
    have hu : wr.cell? ⟨g, k, none⟩ = some (.int .i64 l[k]) := hrw 0 _ (by rw [List.getElem?_drop]; simpa using lentI_elem l k hl2)
    have hx : wr.cell? ⟨b, off + k, none⟩ = some (.int .i64 l[k]) := hon.at (hc k _ (by simp [ints, hl2])) hbg
    go_wp2
    go_roundw
    case rel => exact ⟨k + 1, by omega, by go_num, rfl, hon.setCell rfl _, Hn.out, hrm.setCell _ _, fun _ => H1.out⟩
    case measure => simp [intOf]; omega
   ·have hu : wr.cell? ⟨g, k, none⟩ = some (.int .i64 77) := hrw 0 _ (by rw [List.getElem?_drop]; simpa using lentI_room l k (by omega) hlt)
    go_wp2
    go_roundw
    case rel => exact ⟨k + 1, by omega, by go_num, rfl, hon.setCell rfl _, Hn.out, hrm.setCell _ _, fun _ => H1.out⟩
    case measure => simp [intOf]; omega
  ·go_wp2
   go_ret
   exact ⟨rfl, hon, h1.out (by omega)⟩
theorem wholeOne_any (lo hi : Nat) (v : Value) (l : List Int) (sa : Option Addr) (sc : Nat) (w : World) (hv : IntsX lo w v l) (h : LentV hi w v sa sc l) (hlo : lo ≤ hi) :
  Calls Tryz.prog 28 #[.slice sa l.length sc, v] w fun e w' => e = .returned (.bool true) ∧ Only (fun x => sa = some ⟨x, 0, none⟩) w w' ∧ ∀ c, sa = some ⟨c, 0, none⟩ → w'.cell? ⟨c, 0, none⟩ = some (.int .i64 1) := by
 rcases h with ⟨rfl, rfl, rfl, rfl⟩ | ⟨g, rfl, rfl, h3, h4, h5, h6, h7⟩
 ·refine (wholeInts_nil _ w).mono ?_
  rintro e w' ⟨rfl, rfl⟩
  exact ⟨rfl, Only.refl _ _, by simp⟩
 ·obtain ⟨hl, ⟨h0, _⟩ | ⟨b, off, cap, rfl, hb, hc⟩⟩ | ⟨ea, ec, rfl, rfl⟩ := hv
  ·exact absurd h0 h3
  ·refine (wholeOne_gen ⟨b, off, none⟩ b off cap g l w (fun _ => rfl) hl hc (by omega) h6 h7).mono ?_
   rintro e w' ⟨rfl, ho, h1⟩
   refine ⟨rfl, ho.mono (fun k _ hk => by subst hk; rfl), fun c hc => ?_⟩
   simp only [Option.some.injEq, Addr.mk.injEq, and_true] at hc
   subst hc; exact h1
  ·refine (wholeOne_gen ea (g + 1) 0 ec g [] w (fun h => by simp at h) (by simp) (fun j v hv => by simp [ints] at hv) (by omega) h6 h7).mono ?_
   rintro e w' ⟨rfl, ho, h1⟩
   refine ⟨rfl, ho.mono (fun k _ hk => by subst hk; rfl), fun c hc => ?_⟩
   simp only [Option.some.injEq, Addr.mk.injEq, and_true] at hc
   subst hc; exact h1
end Go.Proofs.YtndlmgocldckfaaGreat
