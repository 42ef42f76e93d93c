import Derived.Test.YtndlmgocldckfaaGreatQue
import Derived.Maps.RangeWalk
import Derived.Maps.RangeRun
import Derived.Deep.LoopGhost
import Derived.Deep.RegionLaw
import Derived.Deep.RegionHeld3
namespace Go.Proofs.YtndlmgocldckfaaGreat
open Go.RowKit
open Go.ChangeMaps (setBlock)
set_option linter.unusedVariables false
set_option linter.unusedSimpArgs false

theorem same_length : ∀ (a b : List Ev), Distinct a → Distinct b → (∀ x, x ∈ a ↔ x ∈ b) → a.length = b.length
  | [], b, _, _, h => by
    cases b with
    | nil => rfl
    | cons y b => exact absurd ((h y).2 (by simp)) (by simp)
  | x :: a, b, ha, hb, h => by
    obtain ⟨h1, h2⟩ := List.pairwise_cons.1 ha
    have hx : x ∈ b := (h x).1 (by simp)
    have hl := outF_length hb hx rfl
    have ih := same_length a (outF x.number b) h2 (outF_distinct hb) (fun y => by
      rw [outF_mem]
      constructor
      · intro hy; exact ⟨(h y).1 (by simp [hy]), (h1 y hy).symm⟩
      · rintro ⟨hy, hn⟩
        rcases List.mem_cons.1 ((h y).2 hy) with rfl | hy
        · exact absurd rfl hn
        · exact hy)
    simp; omega

theorem MapQ.same {es : Array MapEntry} {clock : Nat} {a b : List Ev} (h : MapQ es clock a) (ha : Distinct a) (hb : Distinct b) (hm : ∀ x, x ∈ a ↔ x ∈ b) : MapQ es clock b := by
  refine ⟨h.size.trans (same_length a b ha hb hm), h.stamped, ?_, ?_⟩
  · intro x hx; obtain ⟨e, he, r⟩ := h.sub x hx; exact ⟨e, (hm e).1 he, r⟩
  · intro e he; exact h.sup e ((hm e).2 he)

section
variable {P : Program} {w : World} {ops : Array Oper} {rest : List Oper} {o : Oper} {a : Act} {Q : Exit → Act → World → Prop}
theorem wpList_range_at (hg : o.guard = none) (m : Operand) (t k e : TypeId) (hop : o.op = Op.range t m) (ht : P.underlying t = some (.map k e)) (bm : Nat) (es : Array MapEntry) (clock : Nat) (hm : a.eval m = .map (some bm)) (hb : w.heap[bm]? = some (.map es clock))
    (hK : wpList P ops Q rest (a.put o.dst (.pointer (some ⟨w.heap.size, 0, none⟩))) (w.alloc (.mapIter (some bm) clock #[] clock))) : wpList P ops Q (o :: rest) a w := by
  refine wpList_plain hg fun K hK' => ?_
  have hrun := run_range_map (P := P) w t k e bm es clock ht hb
  unfold Oper.wp
  simp [execOp, hop, hm, hrun, Result.andThen]
  exact hK' _ _ hK
theorem wpList_next_at (hg : o.guard = none) (it : Operand) (hop : o.op = Op.next it false) (r bm since c0 : Nat) (seen : Array Nat) (es : Array MapEntry) (clock : Nat)
    (hit : a.eval it = .pointer (some ⟨r, 0, none⟩)) (hr : w.heap[r]? = some (.mapIter (some bm) since seen c0)) (hb : w.heap[bm]? = some (.map es clock)) (hold : ∀ x ∈ es.toList, x.born < since) (hsc : since ≤ c0)
    (hDone : Hid ((leftOf es seen).size = 0) → wpList P ops Q rest (a.put o.dst (.tuple #[.bool false])) w)
    (hMore : ∀ e w1, Hid (e ∈ (leftOf es seen).toList) → Hid (w1 = w ∨ w1 = w.drew) → wpList P ops Q rest (a.put o.dst (.tuple #[.bool true, e.key, e.val])) (setBlock w1 r (.mapIter (some bm) since (seen.push e.born) clock))) : wpList P ops Q (o :: rest) a w := by
  refine wpList_plain hg fun K hK' => ?_
  unfold Oper.wp
  rcases run_next_at (P := P) w o.type r bm since c0 seen es clock hr hb hold hsc with ⟨h0, hrun⟩ | ⟨e, he, w1, hw1, hrun⟩
  · simp [execOp, hop, hit, hrun, Result.andThen]
    exact hK' _ _ (hDone h0)
  · simp [execOp, hop, hit, hrun, Result.andThen]
    exact hK' _ _ (hMore e w1 he hw1)
end

theorem only_setBlock (W : World) (r : Nat) (o : Obj) : Only (· = r) W (setBlock W r o) :=
  ⟨rfl, rfl, rfl, by simp [setBlock], fun k hk hn => by simp only [setBlock]; rw [Array.getElem?_setIfInBounds_ne (fun e => hn e.symm)]⟩
theorem setBlock_at {W : World} {r : Nat} (h : r < W.heap.size) (o : Obj) : (setBlock W r o).heap[r]? = some o := by simp [setBlock, h]

theorem leftOf_mem {es : Array MapEntry} {seen : Array Nat} {e : MapEntry} : e ∈ (leftOf es seen).toList ↔ e ∈ es.toList ∧ e.born ∉ seen.toList := by
  simp [leftOf]
theorem leftOf_less {es : Array MapEntry} {seen : Array Nat} {e : MapEntry} (he : e ∈ (leftOf es seen).toList) : (leftOf es (seen.push e.born)).size < (leftOf es seen).size := by
  have h1 := leftOf_mem.1 he
  have := filter_lt (fun x : MapEntry => !seen.contains x.born) (fun x : MapEntry => !(seen.push e.born).contains x.born) (by intro x hx; simp at hx ⊢; exact fun h => hx.1 h) e (by simpa using h1.2) (by simp) es.toList h1.1
  simpa [leftOf, ← Array.length_toList] using this

set_option maxHeartbeats 2000000 in
set_option maxRecDepth 100000 in
theorem mapsCopy_any (md ms : Nat) (es : Array MapEntry) (clock cd : Nat) (q : List Ev) (w : World) (hne : md ≠ ms) (hd : w.heap[md]? = some (.map #[] cd)) (hs : w.heap[ms]? = some (.map es clock)) (hq : MapQ es clock q) (hdq : Distinct q) :
    Calls Tryz.prog 133 #[.map (some md), .map (some ms)] w fun e w' => e = .returned (.tuple #[]) ∧ Only (· = md) w w' ∧ ∃ es' c', w'.heap[md]? = some (.map es' c') ∧ MapQ es' c' q := by
  have hml : md < w.heap.size := (Array.getElem?_eq_some_iff.1 hd).1
  have hsl : ms < w.heap.size := (Array.getElem?_eq_some_iff.1 hs).1
  have Hd := hide hd
  have Hs := hide hs
  have Hq := hide hq
  have Hdq := hide hdq
  clear hd hs hq hdq
  go_enter Tryz.func133, Tryz.ntmps133
  go_wp2_with (at_range; refine wpList_range_at rfl (.tmp 6) 152 3 171 rfl Tryz.underlying152 ms es clock rfl Hs.out ?_)
  go_wp2
  go_frame
  go_loopg [] (es.size + 1) (fun g wr => ∃ (seen : Array Nat) (c0 : Nat) (ed : Array MapEntry) (c1 : Nat) (dq : List Ev), clock ≤ c0 ∧ (leftOf es seen).size + 1 ≤ g ∧ Only (fun b => b = md) w wr ∧ w.heap.size < wr.heap.size ∧ wr.heap[w.heap.size]? = some (.mapIter (some ms) clock seen c0) ∧ wr.heap[md]? = some (.map ed c1) ∧ MapQ ed c1 dq ∧ Distinct dq ∧ (∀ e ∈ dq, e ∈ q) ∧ (∀ x ∈ es.toList, x.born ∈ seen.toList ↔ ∃ e ∈ dq, x.key = .int .i64 e.number))
  case atStart =>
    refine ⟨#[], clock, #[], cd, [], Nat.le_refl _, by simp [leftOf]; exact Array.size_filter_le .., Only.new ((Below.refl _ _).alloc (Nat.le_refl _) _), by simp, heap_new _ _, ?_, MapQ.empty cd, List.Pairwise.nil, by simp, by simp⟩
    rw [Below.heap_alloc _ _ _ hml]; exact Hd.out
  case round =>
    obtain ⟨seen, c0, ed, c1, dq, hc0, hg, ho, hz, hit, hmd, hmq, hdd, hsub, hseen⟩ := hrel
    have hms : wr.heap[ms]? = some (.map es clock) := (ho.block ms hsl (Ne.symm hne)).trans Hs.out
    have Hmd := hide hmd
    have Hmq := hide hmq
    have Hdd := hide hdd
    have Hsub := hide hsub
    have Hseen := hide hseen
    have Hit := hide hit
    have Hms := hide hms
    have Ho := hide ho
    clear hmd hmq hdd hsub hseen hit hms ho
    go_wp2_with (at_next; refine wpList_next_at rfl (.tmp 7) rfl w.heap.size ms clock c0 seen es clock rfl Hit.out Hms.out Hq.out.stamped.1 hc0 ?_ ?_)
    · intro hdone
      go_wp2
      go_end0
      refine ⟨rfl, Ho.out, ed, c1, Hmd.out, Hmq.out.same Hdd.out Hdq.out ?_⟩
      intro x
      refine ⟨Hsub.out x, fun hx => ?_⟩
      obtain ⟨y, hy, hk, _⟩ := Hq.out.sup x hx
      have hys : y.born ∈ seen.toList := by
        rcases Classical.em (y.born ∈ seen.toList) with h | h
        · exact h
        · exfalso
          have h0 : y ∈ (leftOf es seen).toList := leftOf_mem.2 ⟨hy, h⟩
          have h1 : leftOf es seen = #[] := by simpa using hdone.out
          rw [h1] at h0
          simp at h0
      obtain ⟨e', he', hk'⟩ := (Hseen.out y hy).1 hys
      have : e' = x := Hdq.out.eq (Hsub.out e' he') hx (by rw [hk] at hk'; simpa using hk'.symm)
      rw [← this]; exact he'
    · intro x w1 hx hw1
      have hx' : x ∈ (leftOf es seen).toList := by simpa using hx.out
      have hlss := leftOf_less hx'
      obtain ⟨hx1, hx2⟩ := leftOf_mem.1 hx'
      obtain ⟨ev, hev, hxk, hxv⟩ := Hq.out.sub x hx1
      have hb1 : Below wr.heap.size wr w1 := by rcases hw1.out with rfl | rfl; exact Below.refl _ _; exact (Below.refl _ _).drew
      have hz1 : w1.heap.size = wr.heap.size := by rcases hw1.out with rfl | rfl <;> rfl
      have hh1 : ∀ k : Nat, w1.heap[k]? = wr.heap[k]? := by rcases hw1.out with rfl | rfl <;> intro k <;> rfl
      have hit2 := setBlock_at (W := w1) (r := w.heap.size) (by omega) (.mapIter (some ms) clock (seen.push x.born) clock)
      have ho2 := only_setBlock w1 w.heap.size (.mapIter (some ms) clock (seen.push x.born) clock)
      have hz2 : (setBlock w1 w.heap.size (.mapIter (some ms) clock (seen.push x.born) clock)).heap.size = wr.heap.size := by simp [setBlock, hz1]
      generalize setBlock w1 w.heap.size (.mapIter (some ms) clock (seen.push x.born) clock) = w2 at hit2 ho2 hz2 ⊢
      have hms2 : w2.heap[ms]? = some (.map es clock) := by rw [ho2.block ms (by omega) (by omega), hh1]; exact Hms.out
      have hmd2 : w2.heap[md]? = some (.map ed c1) := by rw [ho2.block md (by omega) (by omega), hh1]; exact Hmd.out
      have hen := run_entry_at (P := Tryz.prog) w2 w.heap.size ms clock seen es clock x hit2 hms2 hx1 Hq.out.stamped.2.1
      rw [hxk, hxv] at hen ⊢
      have hnew : ∀ y ∈ dq, y.number ≠ ev.number := by
        intro y hy hc
        exact hx2 ((Hseen.out x hx1).2 ⟨y, hy, by rw [hxk, hc]⟩)
      have hup := run_mapPut (W := w2.alloc (.cells #[.int .i64 ev.number, .int .i64 ev.time, .int .i64 ev.kind, .int .i64 ev.entity] 171)) (mb := md) ((Below.heap_alloc _ _ _ (by omega)).trans hmd2) Hmq.out ev hnew
      simp only [evVal] at hen hup ⊢
      have Hnew := hide hnew
      have Hit2 := hide hit2
      have Hms2 := hide hms2
      have Hmd2 := hide hmd2
      have Ho2 := hide ho2
      have Hh1 := hide hh1
      clear hnew hit2 hms2 hmd2 ho2 hh1 hb1
      go_wp2
      go_roundg ((leftOf es (seen.push x.born)).size + 1)
      case measure => omega
      case rel =>
        obtain ⟨W, hW⟩ : ∃ W, W = w2.alloc (.cells #[.int .i64 ev.number, .int .i64 ev.time, .int .i64 ev.kind, .int .i64 ev.entity] 171) := ⟨_, rfl⟩
        have hbW : Below w2.heap.size w2 W := by rw [hW]; exact (Below.refl _ _).alloc (Nat.le_refl _) _
        have hzW : W.heap.size = w2.heap.size + 1 := by rw [hW]; simp
        rw [← hW]
        have how := only_withMap W md (ed.push { key := .int .i64 ev.number, val := .agg #[.int .i64 ev.number, .int .i64 ev.time, .int .i64 ev.kind, .int .i64 ev.entity], born := c1 }) (c1 + 1)
        have hmw := withMap_at (W := W) (mb := md) (by omega) (ed.push { key := .int .i64 ev.number, val := .agg #[.int .i64 ev.number, .int .i64 ev.time, .int .i64 ev.kind, .int .i64 ev.entity], born := c1 }) (c1 + 1)
        have hzw := withMap_size W md (ed.push { key := .int .i64 ev.number, val := .agg #[.int .i64 ev.number, .int .i64 ev.time, .int .i64 ev.kind, .int .i64 ev.entity], born := c1 }) (c1 + 1)
        refine ⟨seen.push x.born, clock, _, _, ev :: dq, Nat.le_refl _, Nat.le_refl _, ?_, by rw [hzw]; omega, ?_, hmw, Hmq.out.put Hnew.out (by simp) (by simp), List.pairwise_cons.2 ⟨fun y hy => (Hnew.out y hy).symm, Hdd.out⟩, ?_, ?_⟩
        · refine ⟨by rw [how.os, hbW.os, Ho2.out.os]; rcases hw1.out with rfl | rfl <;> exact Ho.out.os, by rw [how.tape, hbW.tape, Ho2.out.tape]; rcases hw1.out with rfl | rfl <;> exact Ho.out.tape, by rw [how.output, hbW.output, Ho2.out.output]; rcases hw1.out with rfl | rfl <;> exact Ho.out.output, by rw [hzw]; omega, ?_⟩
          intro k hk hkn
          rw [how.block k (by omega) hkn, hbW.block k (by omega), Ho2.out.block k (by omega) (by omega), Hh1.out, Ho.out.block k hk hkn]
        · rw [how.block _ (by omega) (by omega), hbW.block _ (by omega)]; exact Hit2.out
        · intro e he
          rcases List.mem_cons.1 he with rfl | he
          · exact hev
          · exact Hsub.out e he
        · intro y hy
          have hold := Hseen.out y hy
          constructor
          · intro hyb
            rcases (by simpa using hyb : y.born ∈ seen ∨ y.born = x.born) with h | h
            · obtain ⟨e, he, hk⟩ := hold.1 (by simpa using h)
              exact ⟨e, by simp [he], hk⟩
            · have : y = x := by
                have h1 := find_born y es.toList Hq.out.stamped.2.1 hy
                have h2 := find_born x es.toList Hq.out.stamped.2.1 hx1
                rw [h] at h1
                rw [h1] at h2
                exact Option.some.inj h2
              exact ⟨ev, by simp, by rw [this, hxk]⟩
          · rintro ⟨e, he, hk⟩
            rcases List.mem_cons.1 he with rfl | he
            · have : y = x := by
                obtain ⟨i, hi⟩ := List.getElem?_of_mem hy
                obtain ⟨j, hj⟩ := List.getElem?_of_mem hx1
                have hil : i < (es.toList.map (·.key)).length := by have := (List.getElem?_eq_some_iff.1 hi).1; simpa using this
                have : i = j := (List.getElem?_inj hil Hq.out.stamped.2.2).1 (by rw [List.getElem?_map, List.getElem?_map, hi, hj]; simp [hk, hxk])
                subst this
                rw [hi] at hj
                exact Option.some.inj hj
              rw [this]; simp
            · have := hold.2 ⟨e, he, hk⟩
              simp at this ⊢
              exact .inl this
end Go.Proofs.YtndlmgocldckfaaGreat

namespace Go.Proofs.YtndlmgocldckfaaGreat
open Go.RowKit
set_option linter.unusedVariables false
set_option linter.unusedSimpArgs false

theorem step_append_src {P : Program} {w : World} {ops : Array Oper} {o : Oper} {a : Act} {K : Act → World → Prop} {Q : Exit → Act → World → Prop} {E : Prop} (hgd : o.guard = none) (s x : Operand) (t : TypeId)
    (ho : o.op = .call { callee := .builtin .append, args := #[s, x], argTypes := #[t, t] })
    (base : Nat) (e : TypeId) (z : Value) (size bytes : Nat) (ht : P.underlying t = some (.slice e)) (hinfo : (P.info? e).map (fun i => (i.zero, i.size, i.bytes)) = some (some z, size, bytes))
    (hzs : z.cells.size = size) (hsz : 0 < size)
    (v : Value) (n : Nat) (xs : List Value) (hs : a.eval s = v) (hown : w.ownsRow base e size v n xs)
    (sv : Value) (m : Nat) (news : List Value) (hx : a.eval x = sv) (hsrc : SrcAt w sv m news) (hl : news.length = m * size) (h1 : ∀ u ∈ news, u.oneCell' = true)
    (hbytes : (n + m) * bytes ≤ 140737488355328) (h63 : n + m ≤ 9223372036854775807) (hbase : base ≤ w.heap.size)
    (h : ∀ v' w', Hid (w'.ownsRow base e size v' (n + m) (xs ++ news)) → Hid (w.grownBy w' v.ownBlock) → Hid (v'.ownBlock = v.ownBlock ∨ v'.ownBlock = some w.heap.size) → K (a.put o.dst v') w') :
    if Region.wanted o (yielded ops a.tmps) = true then Oper.wp P o a w K Q else E := by
  have hw : Region.wanted o (yielded ops a.tmps) = true := by simp [Region.wanted, hgd]
  rw [if_pos hw]
  obtain ⟨i, hi, hz, hsz', hby⟩ := info_parts hinfo
  have hsrc' : (sv = .slice none 0 0 ∧ m = 0 ∧ news = []) ∨ ∃ ad c, sv = .slice (some ad) m c ∧ ∀ j u, news[j]? = some u → w.cell? (Addr.add ad j) = some u := by
    rcases hsrc with h | ⟨b, off, c, h, hrow⟩ | ⟨ad, c, h, h0⟩
    · exact .inl h
    · exact .inr ⟨⟨b, off, none⟩, c, h, fun j u hu => by rw [Addr.add_lit]; exact hrow j u hu⟩
    · exact .inr ⟨ad, c, h, fun j u hu => by rw [h0] at hu; simp at hu⟩
  rcases hsrc' with ⟨rfl, rfl, rfl⟩ | ⟨ad, c, rfl, hnews⟩
  · subst hsz'
    have hr := run_append_owned_none (P := P) w base t o.type e i i.size ht hi v n xs hown
    unfold Oper.wp
    simp [execOp, ho, resolve, invoke, builtin, hs, hx, hr, Result.andThen]
    exact h v w (by show World.ownsRow _ _ _ _ _ _ _; simpa using hown) ⟨rfl, rfl, rfl, Nat.le_refl _, fun _ _ _ => rfl⟩ (.inl rfl)
  · subst hsz'
    subst hby
    obtain ⟨v', w', hr, h2, h3, h4⟩ := run_append_own (P := P) w base t o.type e i z i.size i.bytes ht hi hz rfl rfl hzs hsz v n xs hown ad m c news hl hnews h1 (by simp only [maxLen]; omega) hbytes hbase
    have h5 := run_append_where base t o.type e i z ht hi hz v n xs hown ad m c news hl hnews h1 h63 hbytes v' w' hr
    unfold Oper.wp
    simp [execOp, ho, resolve, invoke, builtin, hs, hx, hr, Result.andThen]
    exact h v' w' h2 h3 h5

theorem OrdV.src {base : Nat} {w : World} {v : Value} {n : Nat} {f : Nat → Mom} (h : OrdV base w v n f) : SrcAt w v n (momCells f n) := by
  rcases h with ⟨rfl, rfl⟩ | ⟨b, cap, rfl, h0, h1, h2, cur, h3, h4, h5⟩
  · exact .inl ⟨rfl, rfl, rfl⟩
  · refine .inr (.inl ⟨b, 0, cap, rfl, ?_⟩)
    intro j u hu
    have hj : j < n * 2 := by have := (List.getElem?_eq_some_iff.1 hu).1; rwa [momCells_length] at this
    rw [← h5.cells (by rw [h4]; exact Nat.mul_le_mul_right _ h1), List.getElem?_take, if_pos hj] at hu
    simpa [World.cell?, h3] using hu
theorem OrdV.zero {base : Nat} {w : World} {sa : Option Addr} {sc n : Nat} {f : Nat → Mom} (h : OrdV base w (.slice sa n sc) n f) : w.ownsRow base 186 2 (.slice sa 0 sc) 0 [] := by
  rcases h with ⟨h, rfl⟩ | ⟨b, cap, h, h0, h1, h2, cur, h3, h4, h5⟩
  · simp only [Value.slice.injEq] at h
    obtain ⟨rfl, _, rfl⟩ := h
    exact ⟨rfl, .inl ⟨rfl, rfl⟩⟩
  · simp only [Value.slice.injEq] at h
    obtain ⟨rfl, _, rfl⟩ := h
    exact ⟨rfl, .inr ⟨b, sc, cur, rfl, h0, h3, by omega, h2, h4, by simp⟩⟩

theorem run_clear {W : World} {mb : Nat} {es : Array MapEntry} {clock : Nat} (hb : W.heap[mb]? = some (.map es clock)) (ty : TypeId) :
    (Builtin.clear_ #[152] ty #[.map (some mb)]).run Tryz.prog W = .ok (.tuple #[]) (withMap W mb #[] clock) := by
  simp [Builtin.clear_, run_underlying Tryz.underlying152, MapKept.run_getObj_map hb, MapKept.run_setObj_map _ hb, Result.andThen, withMap]

set_option maxHeartbeats 2000000 in
set_option maxRecDepth 100000 in
theorem become_any {base base' : Nat} (qb mb qb' mb' : Nat) (ov ov' : Value) (q q' : List Ev) (w : World) (h : QueP base w qb mb ov q) (h' : QueP base' w qb' mb' ov' q') (hbase : base ≤ w.heap.size) (hap : ∀ b, QSet qb mb ov b → ¬ QSet qb' mb' ov' b) :
    Calls Tryz.prog 127 #[.pointer (some ⟨qb, 0, none⟩), .pointer (some ⟨qb', 0, none⟩)] w
      fun e w' => ∃ ov2, e = .returned (.tuple #[]) ∧ Only (QSet qb mb ov) w w' ∧ QueP base w' qb mb ov2 q' ∧ Moved w ov ov2 := by
  obtain ⟨es, clock, hm, hq⟩ := h.map
  obtain ⟨es', clock', hm', hq'⟩ := h'.map
  obtain ⟨f, ho, hh, hf⟩ := h.ord
  obtain ⟨f', ho', hh', hf'⟩ := h'.ord
  have h0 := h.c0
  have h1 := h.c1
  have ht := h.thaw
  have h0' := h'.c0
  have h1' := h'.c1
  have hqb := lt_of_cell h0
  have hqb' := lt_of_cell h0'
  have hmb : mb < w.heap.size := (Array.getElem?_eq_some_iff.1 hm).1
  have hmb' : mb' < w.heap.size := (Array.getElem?_eq_some_iff.1 hm').1
  have hmm : mb ≠ mb' := fun e => hap mb (.inr (.inl rfl)) (by rw [e]; exact .inr (.inl rfl))
  have hqm := h.qm
  have hq'm : qb' ≠ mb := fun e => hap mb (.inr (.inl rfl)) (by rw [← e]; exact .inl rfl)
  have hqo := h.qo
  have hmo := h.mo
  have hmo' : some mb ≠ ov'.ownBlock := fun e => hap mb (.inr (.inl rfl)) (.inr (.inr e))
  obtain ⟨sa, sc, rfl⟩ := ho.form
  obtain ⟨sa', sc', rfl⟩ := ho'.form
  have hrun := run_clear hm 3
  have Hl' := hide h'.len
  have Hs' := hide h'.sorted
  have Hd' := hide h'.distinct
  have Hq' := hide hq'
  have Hh' := hide hh'
  have Hf' := hide hf'
  have Hm' := hide hm'
  have Hqo := hide hqo
  have Hmo := hide hmo
  have Hmo' := hide hmo'
  have ho1 := only_withMap w mb #[] clock
  have hz1 := withMap_size w mb #[] clock
  have hm1 := withMap_at hmb #[] clock
  have hrun : ∀ ty, (Builtin.clear_ #[152] ty #[.map (some mb)]).run Tryz.prog w = .ok (.tuple #[]) (withMap w mb #[] clock) := fun ty => run_clear hm ty
  generalize withMap w mb #[] clock = w1 at ho1 hz1 hm1 hrun
  have Hm1 := hide hm1
  have Ho1 := hide ho1
  have HO := hide ho
  have HO' := hide ho'
  clear hm hq hm' hq' ho hh hf ho' hh' hf' h h' hm1 hqo hmo hmo' ho1
  have g0 := Ho1.out.at h0 hqm
  have g0' := Ho1.out.at h0' hq'm
  go_enter Tryz.func127, Tryz.ntmps127
  have hms1 : w1.heap[mb']? = some (.map es' clock') := (Ho1.out.block mb' hmb' (Ne.symm hmm)).trans Hm'.out
  have Hms1 := hide hms1
  clear hms1
  go_wp2
  go_region_held3 (fun W' => W'.cell? ⟨qb, 0, none⟩ = some (.map (some mb)) ∧ W'.cell? ⟨qb', 0, none⟩ = some (.map (some mb')))
    (first | go_keep | exact ⟨ho2.at (w := w1.drew) g0 hqm, ho2.at (w := w1.drew) g0' hq'm⟩)
    (first | (go_at_call 133; refine (mapsCopy_any mb mb' es' clock' clock q' w1.drew hmm Hm1.out Hms1.out Hq'.out Hd'.out).mono ?_; rintro e w2 ⟨rfl, ho2, es2, c2, hm2, hq2⟩))
  all_goals
    have ho3 : Only (· = mb) w w2 := Ho1.out.trans ⟨ho2.os, ho2.tape, ho2.output, ho2.size, ho2.block⟩
    have hz3 := ho3.size
    have k0 := ho3.at h0 hqm
    have k1 := ho3.at h1 hqm
    have k1' := ho3.at h1' hq'm
    have kt : w2.frozen? ⟨qb, 1, none⟩ = false := by
      rw [World.frozen?_of_block (w := w) (a := ⟨qb, 1, none⟩) (ho3.block qb hqb hqm)]; exact ht
    have HZ := hide ((HO.out.only ho3 (fun b hb hc => by subst hc; exact Hmo.out hb)).zero)
    have HSr := hide (((HO'.out.only ho3 (fun b hb hc => by subst hc; exact Hmo'.out hb))).src)
    have Ho3 := hide ho3
    have Hm2 := hide hm2
    have Hq2 := hide hq2
    clear ho2 ho3 hm2 hq2 g0 g0' h0 h0' h1 h1' ht hrun Ho1
    have hl' := Hl'.out
    have own0 : (Value.slice sa 0 sc).ownBlock = (Value.slice sa q.length sc).ownBlock := by cases sa <;> rfl
    have Hq0 : Hid (¬ some qb = (Value.slice sa 0 sc).ownBlock) := by show ¬ _; rw [own0]; exact Hqo.out
    have Hq0' : Hid (¬ some qb' = (Value.slice sa 0 sc).ownBlock) := by show ¬ _; rw [own0]; exact fun e => hap qb' (.inr (.inr e)) (.inl rfl)
    have Hm0 : Hid (¬ some mb = (Value.slice sa 0 sc).ownBlock) := by show ¬ _; rw [own0]; exact Hmo.out
    have Own0 := hide own0
    clear own0
    go_wp2
    go_region_law (first | (refine step_append_src rfl (.tmp 22) (.tmp 26) 154 rfl base 186 (.agg #[.int .i64 0, .int .i64 0]) 2 16 Tryz.underlying154 Tryz.infoM rfl (by omega) (.slice sa 0 sc) 0 [] rfl (show World.ownsRow w2.drew _ _ _ _ _ _ from HZ.out) (.slice sa' q'.length sc') q'.length (momCells f' q'.length) rfl (show SrcAt w2.drew _ _ _ from HSr.out) (momCells_length _ _) (momCells_one _ _) (by omega) (by omega) (by simp; omega) ?_; intro v4 w4 hown4 hgr4 hwh4; (have ho4 : Only (fun b => some b = (Value.slice sa 0 sc).ownBlock) w2 w4 := ⟨hgr4.out.os, hgr4.out.tape, hgr4.out.output, hgr4.out.size, hgr4.out.block⟩); (have kk1 := ho4.at k1 Hq0.out); (have kk1' := ho4.at k1' Hq0'.out); (have kk0 := ho4.at k0 Hq0.out); (have kkt : w4.frozen? ⟨qb, 1, none⟩ = false := (World.frozen?_of_block (w := w2) (a := ⟨qb, 1, none⟩) (ho4.block qb (by omega) Hq0.out)).trans kt); (have hO4 : OrdV base w4 v4 q'.length f' := OrdV.of (by simpa using hown4.out)); obtain ⟨sa4, sc4, rfl⟩ := hO4.form))
    all_goals
      go_end0
      have hz4 := ho4.size
      have hmv : Moved w (.slice sa q.length sc) (.slice sa4 q'.length sc4) := by
        rcases hwh4.out with e | e
        · exact .inl (e.trans Own0.out)
        · exact .inr ⟨_, e, by simp; omega⟩
      have hnq : some qb ≠ (Value.slice sa4 q'.length sc4).ownBlock := by
        rcases hmv with e | ⟨g, e, hg⟩
        · rw [e]; exact Hqo.out
        · rw [e]; simp; omega
      have hnm : some mb ≠ (Value.slice sa4 q'.length sc4).ownBlock := by
        rcases hmv with e | ⟨g, e, hg⟩
        · rw [e]; exact Hmo.out
        · rw [e]; simp; omega
      refine ⟨_, rfl, ?_, ⟨?_, ?_, ?_, ⟨es2, c2, ?_, Hq2.out⟩, ⟨f', ?_, Hh'.out, Hf'.out⟩, hqm, hnq, hnm, Hs'.out, Hd'.out, Hl'.out⟩, hmv⟩
      · exact ((Ho3.out.mono (fun k _ hk => .inr (.inl hk))).trans (ho4.mono (fun k _ hk => .inr (.inr (hk.trans Own0.out))))).setCell (.inl rfl) _
      · rw [World.cell?_setCell_other _ _ _ _ (by simp)]; exact kk0
      · exact World.cell?_setCell_same _ _ _ kk1
      · rw [World.frozen?_setCell]; exact kkt
      · rw [Below.heap_setCell _ _ _ _ (by exact Ne.symm hqm), ho4.block mb (by omega) Hm0.out]; exact Hm2.out
      · exact hO4.only (U := (· = qb)) (Only.setCell (S := (· = qb)) (Only.refl _ _) (p := ⟨qb, 1, none⟩) rfl _) (fun b hb hc => by subst hc; exact hnq hb)
end Go.Proofs.YtndlmgocldckfaaGreat
