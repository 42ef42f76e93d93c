import Derived.Test.YtndlmgocldckfaaGreatG12
import Derived.Test.YtndlmgocldckfaaGreatG15
namespace Go.Proofs.YtndlmgocldckfaaGreat
open Go.RowKit
set_option linter.unusedVariables false
set_option linter.unusedSimpArgs false
set_option maxRecDepth 100000
set_option maxHeartbeats 4000000
def recOne (t : Int) (r : Rec) : List Int := numB (r.e.time - t) ++ (numB r.e.number ++ (numB r.e.kind ++ (numB r.e.entity ++ (numB (r.told.length : Int) ++ r.told.flatMap sgnB))))
def recB : Int → List Rec → List Int
 | _, [] => []
 | t, r :: rs => recOne t r ++ recB r.e.time rs
theorem recB_snoc : ∀ (rs : List Rec) (t : Int) (r : Rec), recB t (rs ++ [r]) = recB t rs ++ recOne (recT t rs) r
 | [], t, r => by simp [recB, recT]
 | x :: rs, t, r => by simp [recB, recT, recB_snoc rs x.e.time r]
theorem sgnB_len (n : Int) : (sgnB n).length ≤ 10 := numB_len _
theorem toldB_len (l : List Int) : (l.flatMap sgnB).length ≤ 10 * l.length := by
 induction l with
 | nil => simp
 | cons x l ih => have := sgnB_len x; simp at ih ⊢; omega
theorem recOne_len (t : Int) (r : Rec) : (recOne t r).length ≤ 50 + 10 * r.told.length := by
 have h1 := numB_len (r.e.time - t)
 have h2 := numB_len r.e.number
 have h3 := numB_len r.e.kind
 have h4 := numB_len r.e.entity
 have h5 := numB_len (r.told.length : Int)
 have h6 := toldB_len r.told
 simp only [recOne, List.length_append]
 omega
theorem recB_len : ∀ (rs : List Rec) (t : Int), (∀ r ∈ rs, r.told.length ≤ 16) → (recB t rs).length ≤ 210 * rs.length
 | [], t, _ => by simp [recB]
 | r :: rs, t, h => by
  have h1 := recOne_len t r
  have h2 := h r (List.mem_cons_self ..)
  have h3 := recB_len rs r.e.time (fun x hx => h x (List.mem_cons_of_mem _ hx))
  simp only [recB, List.length_append, List.length_cons]
  omega
structure RecOk (r : Rec) : Prop where
 num : 0 ≤ r.e.number ∧ r.e.number ≤ 1000000000
 time : r.e.time ≤ 1000000000000
 kind : 0 ≤ r.e.kind ∧ r.e.kind ≤ 7
 ent : 0 ≤ r.e.entity ∧ r.e.entity ≤ 7
 len : r.told.length ≤ 16
 vals : ∀ n ∈ r.told, -1000000000 ≤ n ∧ n ≤ 1000000000
theorem recOkF_iff {t : Int} {r : Rec} (h : recOkF t r = true) : RecOk r ∧ t ≤ r.e.time := by
 simp only [recOkF, inB, valsF, Bool.and_eq_true, decide_eq_true_eq, List.all_eq_true] at h
 obtain ⟨h1, h2, h3, h4, h5, h6⟩ := h
 exact ⟨⟨h1, h2.2, h3, h4, h5, h6⟩, h2.1⟩
theorem recsOkF_at : ∀ (rs : List Rec) (t : Int) (i : Nat) (hi : i < rs.length), recsOkF t rs = true → RecOk rs[i] ∧ recT t (rs.take i) ≤ rs[i].e.time
 | r :: rs, t, 0, hi, h => by
  simp only [recsOkF, Bool.and_eq_true] at h
  simpa [recT] using recOkF_iff h.1
 | r :: rs, t, i + 1, hi, h => by
  simp only [recsOkF, Bool.and_eq_true] at h
  simpa [recT] using recsOkF_at rs r.e.time i (by simpa using hi) h.2
theorem recsOkF_mem {rs : List Rec} {t : Int} (h : recsOkF t rs = true) : ∀ r ∈ rs, RecOk r := by
 intro r hr
 obtain ⟨i, hi, rfl⟩ := List.mem_iff_getElem.1 hr
 exact (recsOkF_at rs t i hi h).1
theorem recT_ge : ∀ (rs : List Rec) (t : Int), recsOkF t rs = true → t ≤ recT t rs
 | [], t, _ => Int.le_refl _
 | r :: rs, t, h => by
  simp only [recsOkF, Bool.and_eq_true] at h
  have h1 := (recOkF_iff h.1).2
  have h2 := recT_ge rs r.e.time h.2
  simp only [recT]
  omega
theorem recsOkF_take_true : ∀ (rs : List Rec) (t : Int) (i : Nat), recsOkF t rs = true → recsOkF t (rs.take i) = true := by
 intro rs t i h
 rcases hx : recsOkF t (rs.take i) with _ | _
 ·rw [recsOkF_take rs t i hx] at h; cases h
 ·rfl
structure RecVar (w : World) (V : Nat) (e : Ev) (sv : Value) : Prop where
 c0 : w.cell? ⟨V, 0, none⟩ = some (.int .i64 e.number)
 c1 : w.cell? ⟨V, 1, none⟩ = some (.int .i64 e.time)
 c2 : w.cell? ⟨V, 2, none⟩ = some (.int .i64 e.kind)
 c3 : w.cell? ⟨V, 3, none⟩ = some (.int .i64 e.entity)
 c4 : w.cell? ⟨V, 4, none⟩ = some sv
theorem RecVar.stay {a b : World} {wb V : Nat} {lv lv1 sv : Value} {e : Ev} (h : RecVar a V e sv) (k : Stay a wb lv b lv1) (hap : Apart a wb lv V) : RecVar b V e sv :=
 ⟨k.at hap h.c0, k.at hap h.c1, k.at hap h.c2, k.at hap h.c3, k.at hap h.c4⟩
theorem RecVar.below {a b : World} {V : Nat} {sv : Value} {e : Ev} (h : RecVar a V e sv) (k : Below a.heap.size a b) : RecVar b V e sv :=
 ⟨below_at k h.c0 (lt_of_cell h.c0), below_at k h.c1 (lt_of_cell h.c1), below_at k h.c2 (lt_of_cell h.c2), below_at k h.c3 (lt_of_cell h.c3), below_at k h.c4 (lt_of_cell h.c4)⟩
theorem RecVar.new (w : World) (e : Ev) (sv : Value) (T : TypeId) : RecVar (w.alloc (.cells #[.int .i64 e.number, .int .i64 e.time, .int .i64 e.kind, .int .i64 e.entity, sv] T)) w.heap.size e sv := by
 constructor <;> simp [go_sem]
structure WrV (w wr : World) (wb : Nat) (lv : Value) (l : List Int) (V : Nat) (e : Ev) (sv : Value) : Prop where
 s : SvR w wr wb lv l
 ap : Apart wr wb lv V
 var : RecVar wr V e sv
theorem WrV.num {w wr : World} {wb : Nat} {lv : Value} {l : List Int} {V : Nat} {e : Ev} {sv : Value} (n : Int) (h : WrV w wr wb lv l V e sv) (hl : l.length ≤ 1000000) (hn : 0 ≤ n ∧ n ≤ 9223372036854775807) :
  Calls Tryz.prog 110 #[.pointer (some ⟨wb, 0, none⟩), .int .i64 n] wr fun ed w' => ed = .returned (.tuple #[]) ∧ ∃ lv', WrV w w' wb lv' (l ++ numB n) V e sv :=
 (sNum n h.s hl hn).mono (by rintro e w' ⟨rfl, lv', h1, h2⟩; exact ⟨rfl, lv', h1, (h2 _ h.ap).1, h.var.stay h2 h.ap⟩)
theorem WrV.sgn {w wr : World} {wb : Nat} {lv : Value} {l : List Int} {V : Nat} {e : Ev} {sv : Value} (n : Int) (h : WrV w wr wb lv l V e sv) (hl : l.length ≤ 1000000) (hn : -1000000000 ≤ n ∧ n ≤ 1000000000) :
  Calls Tryz.prog 111 #[.pointer (some ⟨wb, 0, none⟩), .int .i64 n] wr fun ed w' => ed = .returned (.tuple #[]) ∧ ∃ lv', WrV w w' wb lv' (l ++ sgnB n) V e sv :=
 (sSgn n h.s hl hn).mono (by rintro e w' ⟨rfl, lv', h1, h2⟩; exact ⟨rfl, lv', h1, (h2 _ h.ap).1, h.var.stay h2 h.ap⟩)
theorem writeRecs_any (a : Option Addr) (cap : Nat) (rs : List Rec) (w wr : World) (wb : Nat) (lv : Value) (l : List Int) (h : RecIn w a rs) (hok : recsOkF 0 rs = true) (hn : rs.length ≤ 1000) (hS : SvR w wr wb lv l) (hl : l.length ≤ 100) :
  Calls Tryz.prog 76 #[.pointer (some ⟨wb, 0, none⟩), .slice a rs.length cap] wr fun e w' => e = .returned (.tuple #[]) ∧ ∃ lv', SvR w w' wb lv' (l ++ (numB rs.length ++ recB 0 rs)) := by
 have H := hide h
 have HS := hide hS
 have Hok := hide hok
 clear h hS hok
 go_enter Tryz.func76, Tryz.ntmps76
 go_wp2_with fail
 refine (sNum (rs.length : Int) HS.out (by omega) (by omega)).mono ?_
 rintro e w2 ⟨rfl, lv2, hS2, _⟩
 have HS2 := hide hS2
 have n1 := numB_len (rs.length : Int)
 clear hS2
 go_wp2_with fail
 go_loopg [4, 15] (rs.length + 3) (fun g s4 s15 wr => ∃ (i : Nat) (lvi : Value), s15 = .int .i64 i ∧ s4 = .int .i64 (recT 0 (rs.take i)) ∧ rs.length - i + 2 ≤ g ∧ i ≤ rs.length ∧ Hid (SvR w wr wb lvi ((l ++ numB rs.length) ++ recB 0 (rs.take i))))
 case atStart => exact ⟨0, lv2, rfl, rfl, by omega, by omega, show SvR _ _ _ _ _ by simpa [recB] using HS2.out⟩
 case round =>
  rename World => wo
  obtain ⟨i, lvi, rfl, rfl, hg, hi, hI⟩ := hrel
  by_cases hlt : i < rs.length
  ·have d1 : decide ((i : Int) < (rs.length : Int)) = true := by simp; omega
   have hii : (i : Int) < (rs.length : Int) := by omega
   have hw : IntKind.i64.wrap ((i : Int) + 1) = (i : Int) + 1 := by rw [IntKind.wrap_i64]; omega
   obtain ⟨b, off, sa, sc, rfl, c0, c1, c2, c3, c4, ct⟩ := H.out i rs[i] (List.getElem?_eq_getElem hlt)
   replace c0 := below_at hI.out.below c0 (lt_of_cell c0)
   replace c1 := below_at hI.out.below c1 (lt_of_cell c1)
   replace c2 := below_at hI.out.below c2 (lt_of_cell c2)
   replace c3 := below_at hI.out.below c3 (lt_of_cell c3)
   replace c4 := below_at hI.out.below c4 (lt_of_cell c4)
   obtain ⟨hro, hrt⟩ := recsOkF_at rs 0 i hlt Hok.out
   have hge := recT_ge _ 0 (recsOkF_take_true rs 0 i Hok.out)
   have hbl : ((l ++ numB rs.length) ++ recB 0 (rs.take i)).length ≤ 500000 := by
    have := recB_len (rs.take i) 0 (fun r hr => (recsOkF_mem Hok.out r (List.mem_of_mem_take hr)).len)
    simp only [List.length_append, List.length_take] at this ⊢
    omega
   have HT : Hid (((l ++ numB rs.length) ++ recB 0 (rs.take i)) ++ recOne (recT 0 (rs.take i)) rs[i] = (l ++ numB rs.length) ++ recB 0 (rs.take (i + 1))) := by
    show _ = _
    rw [List.take_succ_eq_append_getElem hlt, recB_snoc, List.append_assoc]
   have HL : Hid (recT 0 (rs.take (i + 1)) = rs[i].e.time) := by
    show _ = _
    rw [List.take_succ_eq_append_getElem hlt, recT_snoc]
   have Hct := hide ct
   have HI := hide hI.out
   generalize hbs : (l ++ numB rs.length) ++ recB 0 (rs.take i) = bs at HI HT hbl
   generalize rs[i] = r at c0 c1 c2 c3 c4 Hct HT HL hro hrt
   obtain ⟨⟨rt, rn, rk, re⟩, told⟩ := r
   obtain ⟨o1, o2, o3, o4, o5, o6⟩ := hro
   simp only at c0 c1 c2 c3 c4 Hct HL hrt o1 o2 o3 o4 o5 o6
   generalize recT 0 (rs.take i) = t at HT hrt hge ⊢
   have hws : IntKind.i64.wrap (rt - t) = rt - t := by rw [IntKind.wrap_i64]; omega
   obtain ⟨W1, hW1⟩ : ∃ W1, W1 = wo.alloc (.cells #[.int .i64 rn, .int .i64 rt, .int .i64 rk, .int .i64 re, .slice sa told.length sc] 46) := ⟨_, rfl⟩
   have hb1 : Below wo.heap.size wo W1 := by rw [hW1]; exact (Below.refl _ _).alloc (Nat.le_refl _) _
   have hz1 : W1.heap.size = wo.heap.size + 1 := by rw [hW1]; simp
   have HV1 : Hid (WrV w W1 wb lvi bs wo.heap.size ⟨rt, rn, rk, re⟩ (.slice sa told.length sc)) := by
    refine ⟨HI.out.bel hb1, ⟨by omega, ?_, ?_⟩, ?_⟩
    ·have := lt_of_cell HI.out.wr.cell; omega
    ·intro hc; have := (HI.out.wr.row.lt _ hc).2; omega
    ·rw [hW1]; exact RecVar.new wo ⟨rt, rn, rk, re⟩ _ _
   clear ct hbs hb1 hI
   have n1 := numB_len (rt - t)
   have n2 := numB_len rn
   have n3 := numB_len rk
   have n4 := numB_len re
   have n5 := numB_len (told.length : Int)
   have n6 := toldB_len told
   have HR : Hid (recOne t ⟨⟨rt, rn, rk, re⟩, told⟩ = numB (rt - t) ++ (numB rn ++ (numB rk ++ (numB re ++ (numB (told.length : Int) ++ told.flatMap sgnB))))) := by show _ = _; rfl
   go_wp2_with fail
   rw [← hW1]
   clear hW1 c0 c1 c2 c3 c4
   generalize wo.heap.size = V at HV1 hz1 ⊢
   refine (HV1.out.num (rt - t) (by omega) (by omega)).mono ?_
   rintro e w2 ⟨rfl, lv2, h2⟩
   have HV2 := hide h2
   have x0 := h2.var.c0
   simp only at x0
   clear h2
   go_wp2_with fail
   refine (HV2.out.num rn (by simp; omega) (by omega)).mono ?_
   rintro e w3 ⟨rfl, lv3, h3⟩
   have HV3 := hide h3
   have x2 := h3.var.c2
   simp only at x2
   clear h3 x0
   go_wp2_with fail
   refine (HV3.out.num rk (by simp; omega) (by omega)).mono ?_
   rintro e w4 ⟨rfl, lv4, h4⟩
   have HV4 := hide h4
   have x3 := h4.var.c3
   simp only at x3
   clear h4 x2
   go_wp2_with fail
   refine (HV4.out.num re (by simp; omega) (by omega)).mono ?_
   rintro e w5 ⟨rfl, lv5, h5⟩
   have HV5 := hide h5
   have x4 := h5.var.c4
   clear h5 x3
   go_wp2_with fail
   refine (HV5.out.num (told.length : Int) (by simp; omega) (by omega)).mono ?_
   rintro e w6 ⟨rfl, lv6, h6⟩
   have x5 := h6.var.c4
   obtain ⟨b6, hb6⟩ : ∃ b6, b6 = bs ++ numB (rt - t) ++ numB rn ++ numB rk ++ numB re ++ numB (told.length : Int) := ⟨_, rfl⟩
   have HV6 : Hid (WrV w w6 wb lv6 b6 V ⟨rt, rn, rk, re⟩ (.slice sa told.length sc)) := by rw [hb6]; exact h6
   have hb6l : b6.length ≤ 600000 := by rw [hb6]; simp; omega
   have HB6 : Hid (bs ++ recOne t ⟨⟨rt, rn, rk, re⟩, told⟩ = b6 ++ told.flatMap sgnB) := by
    show _ = _
    rw [HR.out, hb6]
    simp
   clear h6 x4 hb6 HV1 HV2 HV3 HV4 HV5
   go_wp2_with fail
   clear x5
   go_loopg [45] 20 (fun g s45 wr => ∃ (k : Nat) (lvk : Value), s45 = .int .i64 k ∧ told.length - k + 2 ≤ g ∧ k ≤ told.length ∧ Hid (WrV w wr wb lvk (b6 ++ (told.take k).flatMap sgnB) V ⟨rt, rn, rk, re⟩ (.slice sa told.length sc)))
   case atStart => exact ⟨0, lv6, rfl, by omega, by omega, show WrV _ _ _ _ _ _ _ _ by simpa using HV6.out⟩
   case round =>
    obtain ⟨k, lvk, rfl, hg2, hk, hK⟩ := hrel
    by_cases hkl : k < told.length
    ·have g1 : decide ((k : Int) < (told.length : Int)) = true := by simp; omega
     have hkk : (k : Int) < (told.length : Int) := by omega
     have hw2 : IntKind.i64.wrap ((k : Int) + 1) = (k : Int) + 1 := by rw [IntKind.wrap_i64]; omega
     obtain ⟨g', o', rfl, hgc⟩ := Hct.out k told[k] (List.getElem?_eq_getElem hkl)
     have gc := below_at hK.out.s.below hgc (lt_of_cell hgc)
     have hvk := o6 told[k] (List.getElem_mem hkl)
     have HK : Hid (told.take (k + 1) = told.take k ++ [told[k]]) := List.take_succ_eq_append_getElem hkl
     have hkn : (b6 ++ (told.take k).flatMap sgnB).length ≤ 700000 := by
      have := toldB_len (told.take k)
      simp only [List.length_append, List.length_take] at this ⊢
      omega
     generalize told[k] = tv at gc hvk HK
     clear hgc
     go_wp2_with fail
     refine (hK.out.sgn tv (by omega) (by omega)).mono ?_
     rintro e w7 ⟨rfl, lv7, h7⟩
     have HV7 := hide h7
     clear h7
     go_wp2_with fail
     go_roundg (told.length - (k + 1) + 2)
     case measure => omega
     case rel => exact ⟨k + 1, lv7, by go_num, Nat.le_refl _, by omega, show WrV _ _ _ _ _ _ _ _ by rw [HK.out]; simpa using HV7.out⟩
    ·have g1 : decide ((k : Int) < (told.length : Int)) = false := by simp; omega
     have hq : told.take k = told := List.take_of_length_le (by omega)
     have HF : Hid (WrV w wr wb lvk (b6 ++ told.flatMap sgnB) V ⟨rt, rn, rk, re⟩ (.slice sa told.length sc)) := by
      have := hK.out
      rw [hq] at this
      exact this
     have y1 := HF.out.var.c1
     simp only at y1
     clear hK
     go_wp2_with fail
     go_roundg (rs.length - (i + 1) + 2)
     case measure => omega
     case rel => exact ⟨i + 1, lvk, by go_num, by rw [HL.out], Nat.le_refl _, by omega, show SvR _ _ _ _ _ by rw [← HT.out, HB6.out]; exact HF.out.s⟩
  ·have d1 : decide ((i : Int) < (rs.length : Int)) = false := by simp; omega
   have hq : rs.take i = rs := List.take_of_length_le (by omega)
   have hv := hI.out
   rw [hq] at hv
   go_wp2_with fail
   go_end0
   exact ⟨rfl, lvi, by rw [← List.append_assoc]; exact hv⟩
def encT (rs : List Rec) : List Int := numB rs.length ++ recB 0 rs
def encH (rs : List Rec) : List Int := [84, 77, 82, 1] ++ encT rs
def encF (rs : List Rec) : List Int := encH rs ++ sumB (encH rs)
theorem recB_bytes : ∀ (rs : List Rec) (t : Int), 0 ≤ t → recsOkF t rs = true → ∀ b ∈ recB t rs, 0 ≤ b ∧ b < 256
 | [], t, _, _ => by simp [recB]
 | r :: rs, t, ht, h => by
  simp only [recsOkF, Bool.and_eq_true] at h
  obtain ⟨⟨o1, o2, o3, o4, o5, o6⟩, o7⟩ := recOkF_iff h.1
  intro b hb
  simp only [recB, recOne, List.mem_append] at hb
  rcases hb with (hb | hb | hb | hb | hb | hb) | hb
  ·exact numB_bytes (by omega) b hb
  ·exact numB_bytes (by omega) b hb
  ·exact numB_bytes (by omega) b hb
  ·exact numB_bytes (by omega) b hb
  ·exact numB_bytes (by omega) b hb
  ·obtain ⟨x, hx, hb⟩ := List.mem_flatMap.1 hb
   exact sgnB_bytes (o6 x hx) b hb
  ·exact recB_bytes rs r.e.time (by omega) h.2 b hb
theorem areF_len {rs : List Rec} (h : areF rs = true) : rs.length ≤ 1000 ∧ recsOkF 0 rs = true := by
 simpa [areF] using h
theorem encT_bytes {rs : List Rec} (h : areF rs = true) : ∀ b ∈ encT rs, 0 ≤ b ∧ b < 256 := by
 obtain ⟨h1, h2⟩ := areF_len h
 intro b hb
 rcases List.mem_append.1 hb with hb | hb
 ·exact numB_bytes (by omega) b hb
 ·exact recB_bytes rs 0 (by omega) h2 b hb
theorem encT_len {rs : List Rec} (h : areF rs = true) : (encT rs).length ≤ 210010 := by
 obtain ⟨h1, h2⟩ := areF_len h
 have := recB_len rs 0 (fun r hr => (recsOkF_mem h2 r hr).len)
 have := numB_len (rs.length : Int)
 simp only [encT, List.length_append]
 omega
theorem encF_len (rs : List Rec) : (encF rs).length = (encT rs).length + 8 := by
 simp only [encF, encH, List.length_append, sumB_len, List.length_cons, List.length_nil]
 omega
theorem encode_no (a : Option Addr) (cap : Nat) (rs : List Rec) (w : World) (h : RecIn w a rs) (hl : rs.length ≤ 1000000000000000) (hno : areF rs = false) :
  Calls Tryz.prog 38 #[.slice a rs.length cap] w fun e w' => e = .returned (.tuple #[.slice none 0 0, .int .i64 1]) ∧ Below w.heap.size w w' := by
 go_enter Tryz.func38, Tryz.ntmps38
 go_wp2_with fail
 refine (areRecs_any a cap rs w h hl).mono ?_
 rintro e w1 ⟨rfl, hb1⟩
 rw [hno]
 have HB1 := hide hb1
 clear hb1 h
 go_wp2_with fail
 go_ret2
 exact ⟨rfl, HB1.out⟩
theorem encode_yes (a : Option Addr) (cap : Nat) (rs : List Rec) (w : World) (h : RecIn w a rs) (hyes : areF rs = true) :
  Calls Tryz.prog 38 #[.slice a rs.length cap] w fun e w' => ∃ v, e = .returned (.tuple #[v, .int .i64 0]) ∧ Below w.heap.size w w' ∧ BRow w.heap.size w' v (encF rs) := by
 have H := hide h
 obtain ⟨h1, h2⟩ := areF_len hyes
 have Hby := hide (encT_bytes hyes)
 have hbl := encT_len hyes
 have Hyes := hide hyes
 clear h hyes
 go_enter Tryz.func38, Tryz.ntmps38
 go_wp2_with fail
 refine (areRecs_any a cap rs w H.out (by omega)).mono ?_
 rintro e w0 ⟨rfl, hb0⟩
 rw [Hyes.out]
 have HB0 := hide hb0
 have hz0 := hb0.size
 clear hb0
 go_wp2_with fail
 refine (begin_any w0 _ ?_).mono ?_
 ·decide
 rintro e w1 ⟨wb, lv1, rfl, hb1, hwl, hW1, hlv⟩
 have HS1 : Hid (SvR w0 w1 wb lv1 [84, 77, 82, 1]) := ⟨hb1, hW1, hwl⟩
 clear hb1 hW1 hwl hlv
 go_wp2_with fail
 refine (writeRecs_any a cap rs w0 w1 wb lv1 _ (H.out.below HB0.out) h2 h1 HS1.out (by simp)).mono ?_
 rintro e w2 ⟨rfl, lv2, hS2⟩
 have HS2 := hide hS2
 clear hS2
 go_wp2_with fail
 refine (end_any w0.heap.size wb lv2 (encH rs) w2 HS2.out.wr HS2.out.below.size (by simp only [encH, List.length_append, List.length_cons, List.length_nil]; omega) ?_).mono ?_
 ·intro c hc
  rcases List.mem_append.1 hc with hc | hc
  ·simp at hc; omega
  ·exact Hby.out c hc
 rintro e w3 ⟨v, rfl, ho3, hrow3⟩
 obtain ⟨g, cap', rfl⟩ := hrow3.form
 have HB3 : Hid (Below w.heap.size w w3) := HB0.out.trans ((HS2.out.below.trans (ho3.below HS2.out.below.size (fun k hk hc => by have := (HS2.out.wr.row.lt k hc).1; omega))).mono hz0)
 have Hrow3 := hide (hrow3.mono hz0)
 clear hrow3 ho3
 go_wp2_with fail
 go_ret2
 exact ⟨_, rfl, HB3.out, by have := Hrow3.out; simp only [List.length_append] at this; exact this⟩
end Go.Proofs.YtndlmgocldckfaaGreat
