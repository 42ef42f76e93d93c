import Derived.Test.YtndlmgocldckfaaGreatG18
import Derived.Test.YtndlmgocldckfaaGreatG03
import Derived.Deep.RegionHeld3
namespace Go.Proofs.YtndlmgocldckfaaGreat
open Go.RowKit
set_option linter.unusedVariables false
set_option linter.unusedSimpArgs false
set_option maxRecDepth 100000
set_option maxHeartbeats 4000000
theorem sN{base:Nat}(wb:Nat)(lv:Value)(ps:List Pair)(bk:BookD)(a b c d ents:Int)(ka:Addr)(kb koff kcap:Nat)(ks:List (List Ins))(l:Value)(draws:List Int)(rv qv sv:Value)(w:World)(h:Inv base w wb lv ps bk)(hka:0<ks.length→ka=⟨kb,koff,none⟩)(hkl:ks.length≤5864062014805)(hkb:kb<base)(hK:KindsAt base w kb koff ks)(hd:IntsX base w l draws)(p:Nat×Nat)(hk:bE ents ks=some p) :
  Calls Tryz.prog 15 #[.pointer (some ⟨wb,0,none⟩),.agg #[.int .i64 2,.int .i64 a,.int .i64 b,.int .i64 c,.int .i64 d,.int .i64 ents,.slice (some ka) ks.length kcap,l,rv,qv,sv]] w
   fun e w'=>e=.returned (.bool true)∧Below base w w'∧∃ lv' ps',ps'.length≤ps.length+1∧Inv base w' wb lv' ps' bk:=by
 have hbl:base≤w.heap.size:=Nat.le_trans h.blo (Nat.le_of_lt h.wlt);obtain⟨W,hW⟩:∃ W,W=w.alloc (.cells #[.int .i64 2,.int .i64 a,.int .i64 b,.int .i64 c,.int .i64 d,.int .i64 ents,.slice (some ka) ks.length kcap,l,rv,qv,sv] 41):=⟨_,rfl⟩;have hb:Below w.heap.size w W:=by rw[hW];exact(Below.refl _ _).alloc (Nat.le_refl _) _
 have hWs:W.heap.size=w.heap.size+1:=by rw[hW];simp
 have c0:W.cell? ⟨w.heap.size,0,none⟩=some (.int .i64 2):=by rw[hW];simp[go_sem]
 have c5:W.cell? ⟨w.heap.size,5,none⟩=some (.int .i64 ents):=by rw[hW];simp[go_sem]
 have c6:W.cell? ⟨w.heap.size,6,none⟩=some (.slice (some ka) ks.length kcap):=by rw[hW];simp[go_sem]
 have c7:W.cell? ⟨w.heap.size,7,none⟩=some l:=by rw[hW];simp[go_sem]
 obtain⟨la,lc,rfl⟩:=hd.form;have HK:Hid (∀ W:World,Below w.heap.size w W→KindsAt W.heap.size W kb koff ks):=by
  intro W hW;have:=hW.size;exact(hK.below (hW.mono hbl) hkb (Nat.le_refl _)).mono (by omega)
 have HD:Hid (∀ W:World,Below w.heap.size w W→IntsX base W (.slice la draws.length lc) draws):=by
  intro W hW;exact hd.below (hW.mono hbl)
 have hdl:=hd.len;have Hdl:=aB hdl;clear hd hK hdl
 go_enter Tryz.func15,Tryz.ntmps15
 go_wp2_with fail
 rw[←hW];refine(fI ents ka kb koff kcap ks _ hka hkl (by omega) (HK.out W hb)).mono ?_
 rintro e w1 ⟨g,hh,rs,rfl,hb1,hL1⟩;have hz1:=hb1.size;have d0:=aA hb1 c0 (by omega)
 have d5:=aA hb1 c5 (by omega)
 have d6:=aA hb1 c6 (by omega)
 have d7:=aA hb1 c7 (by omega)
 have hB1:Below w.heap.size w w1:=hb.trans (hb1.mono (by omega))
 have hlt1:w.heap.size<w1.heap.size:=by omega
 have HL1:=aB hL1;clear c0 c5 c6 c7 hW hL1
 go_wp2_with fail
 have hm:=(Below.refl w1.heap.size w1).alloc (Nat.le_refl _) (.cells #[.int .i64 ents,.slice (some ⟨g,0,none⟩) ks.length (ks.length+8)] 38);have HLm:=aB (HL1.out.below hm);refine(dZ _ draws _ (HD.out _ (hB1.trans (hm.mono (by omega))))).mono ?_
 rintro e w2 ⟨sa,sc,rfl,hb2,hLV⟩;have hz2:=hb2.size;rw[World.size_alloc]at hz2;have e0:=aA hb2 (aA hm d0 (by omega)) (by simp;omega)
 have e5:=aA hb2 (aA hm d5 (by omega)) (by simp;omega)
 have e6:=aA hb2 (aA hm d6 (by omega)) (by simp;omega)
 have e7:=aA hb2 (aA hm d7 (by omega)) (by simp;omega)
 have m0:w2.cell? ⟨w1.heap.size,0,none⟩=some (.int .i64 ents):=aA hb2 (by simp[go_sem]) (by simp)
 have m1:w2.cell? ⟨w1.heap.size,1,none⟩=some (.slice (some ⟨g,0,none⟩) ks.length (ks.length+8)):=aA hb2 (by simp[go_sem]) (by simp)
 have hB2:Below w.heap.size w w2:=hB1.trans ((hm.mono (by omega)).trans (hb2.mono (by simp;omega)))
 have HL2:=aB (HLm.out.below hb2);have HLV:=aB hLV;rw[World.size_alloc]at HLV;clear d0 d5 d6 d7 hLV
 go_wp2_with fail
 refine(kT (B:=0) ents _ _ ks _ ⟨hkl,.inr (.inl ⟨g,0,_,rfl,HL2.out.ghi,HL2.out.kinds⟩)⟩ p hk).mono ?_;rintro e w3 ⟨rfl,hb3⟩;have hz3:=hb3.size;have f5:=aA hb3 e5 (by omega)
 have f6:=aA hb3 e6 (by omega)
 have f7:=aA hb3 e7 (by omega)
 have n0:=aA hb3 m0 (by omega)
 have n1:=aA hb3 m1 (by omega)
 have hB3:Below w.heap.size w w3:=hB2.trans (hb3.mono (by omega))
 have HL3:=aB (HL2.out.below hb3);clear e0 e5 e6 e7 m0 m1
 go_wp2_with fail
 refine(lA ents _ _ ks _ (nR hka hkl (by omega) (HK.out _ hB3)) p hk).mono ?_
 rintro e w4 ⟨rfl,hb4⟩;have hz4:=hb4.size;have g5:=aA hb4 f5 (by omega)
 have g6:=aA hb4 f6 (by omega)
 have g7:=aA hb4 f7 (by omega)
 have p0:=aA hb4 n0 (by omega)
 have p1:=aA hb4 n1 (by omega)
 have hB4:Below w.heap.size w w4:=hB3.trans (hb4.mono (by omega))
 have HL4:=aB (HL3.out.below hb4);clear f5 f6 f7 n0 n1
 go_wp2_with fail
 refine(eP ents ka _ _ g hh kb koff kcap rs ks _ hka hkl HL4.out).mono ?_;rintro e w5 ⟨rfl,ho5⟩;have HS5:Hid (∀ k,(k=g∨∃ i:Nat,rs[i]?=some (some k))→w.heap.size+1<k∧k<w1.heap.size):=by
  rintro k (rfl|⟨i,hi⟩)
  ·have:=HL1.out.glo;have:=HL1.out.ghi;omega
  ·have hilt:i<ks.length:=by have:=(List.getElem?_eq_some_iff.1 hi).1;rw[HL1.out.len]at this;exact this
   have:=HL1.out.code i k ks[i] hi (by simp[hilt]);omega
 have hz5:=ho5.size;have q7:=ho5.at g7 (fun hs=>by have:=HS5.out _ hs;omega)
 have hB5:Below w.heap.size w w5:=hB4.trans (ho5.below (by omega) (fun k hk hs=>by have:=HS5.out _ hs;omega))
 have HLV5:=aB (((HLV.out.below hb3).below hb4).only ho5 (fun k hk hs=>by have:=HS5.out _ hs;omega))
 have Ho5:=aB ho5;clear g5 g6 g7 p0 p1 ho5
 go_wp2_with fail
 refine(eI (w1.heap.size+1) w2.heap.size _ draws sa sc _ ((HD.out _ hB5).mono (by omega)) HLV5.out (by
  intro g hg;rcases HLV.out with⟨_,h0,_⟩|⟨g',h1,_,_,_,h5,_⟩
  ·rw[h0]at hg;cases hg
  ·rw[h1]at hg;simp at hg;omega)).mono ?_
 rintro e w6 ⟨rfl,ho6⟩;have hB6:Below w.heap.size w w6:=hB5.trans (ho6.below (by omega) (by intro k hk hs;omega))
 have Ho6:=aB ho6;have hz6:=ho6.size;clear ho6
 go_wp2_with fail
 refine(lZ wb _).mono ?_;rintro e w7 ⟨rfl,rfl⟩
 go_wp2
 go_ret;exact⟨by simp,hB6.mono hbl,lv,ps,by omega,h.below hB6⟩
theorem sO{base:Nat}(wb:Nat)(lv:Value)(ps:List Pair)(bk:BookD)(a b c d ents:Int)(ka:Addr)(kb koff kcap:Nat)(ks:List (List Ins))(l:Value)(draws:List Int)(rv qv sv:Value)(w:World)(h:Inv base w wb lv ps bk)(hka:0<ks.length→ka=⟨kb,koff,none⟩)(hkl:ks.length≤5864062014805)(hkb:kb<base)(hK:KindsAt base w kb koff ks)(hd:IntsX base w l draws)(hk:bE ents ks=none)(hD:cO draws=false) :
  Calls Tryz.prog 15 #[.pointer (some ⟨wb,0,none⟩),.agg #[.int .i64 2,.int .i64 a,.int .i64 b,.int .i64 c,.int .i64 d,.int .i64 ents,.slice (some ka) ks.length kcap,l,rv,qv,sv]] w
   fun e w'=>e=.returned (.bool true)∧Below base w w'∧∃ lv' ps',ps'.length≤ps.length+1∧Inv base w' wb lv' ps' bk:=by
 have hks:0<ks.length:=by
  cases ks with
  | nil=>rw[iL]at hk;cases hk
  | cons x l=>simp
 obtain rfl:=hka hks;have hbl:base≤w.heap.size:=Nat.le_trans h.blo (Nat.le_of_lt h.wlt);obtain⟨W,hW⟩:∃ W,W=w.alloc (.cells #[.int .i64 2,.int .i64 a,.int .i64 b,.int .i64 c,.int .i64 d,.int .i64 ents,.slice (some ⟨kb,koff,none⟩) ks.length kcap,l,rv,qv,sv] 41):=⟨_,rfl⟩;have hb:Below w.heap.size w W:=by rw[hW];exact(Below.refl _ _).alloc (Nat.le_refl _) _
 have hWs:W.heap.size=w.heap.size+1:=by rw[hW];simp
 have c0:W.cell? ⟨w.heap.size,0,none⟩=some (.int .i64 2):=by rw[hW];simp[go_sem]
 have c5:W.cell? ⟨w.heap.size,5,none⟩=some (.int .i64 ents):=by rw[hW];simp[go_sem]
 have c6:W.cell? ⟨w.heap.size,6,none⟩=some (.slice (some ⟨kb,koff,none⟩) ks.length kcap):=by rw[hW];simp[go_sem]
 have c7:W.cell? ⟨w.heap.size,7,none⟩=some l:=by rw[hW];simp[go_sem]
 obtain⟨la,lc,rfl⟩:=hd.form;have HK:Hid (∀ W:World,Below w.heap.size w W→KindsAt W.heap.size W kb koff ks):=by
  intro W hW;have:=hW.size;exact(hK.below (hW.mono hbl) hkb (Nat.le_refl _)).mono (by omega)
 have HD:Hid (∀ W:World,Below w.heap.size w W→IntsX base W (.slice la draws.length lc) draws):=by
  intro W hW;exact hd.below (hW.mono hbl)
 have hdl:=hd.len;have Hdl:=aB hdl;clear hd hK hdl
 go_enter Tryz.func15,Tryz.ntmps15
 go_wp2_with fail
 rw[←hW];refine(fI ents ⟨kb,koff,none⟩ kb koff kcap ks _ (fun _=>rfl) hkl (by omega) (HK.out W hb)).mono ?_
 rintro e w1 ⟨g,hh,rs,rfl,hb1,hL1⟩;have hz1:=hb1.size;have d0:=aA hb1 c0 (by omega)
 have d5:=aA hb1 c5 (by omega)
 have d6:=aA hb1 c6 (by omega)
 have d7:=aA hb1 c7 (by omega)
 have hB1:Below w.heap.size w w1:=hb.trans (hb1.mono (by omega))
 have hlt1:w.heap.size<w1.heap.size:=by omega
 have HL1:=aB hL1;clear c0 c5 c6 c7 hW hL1
 go_wp2_with fail
 have hm:=(Below.refl w1.heap.size w1).alloc (Nat.le_refl _) (.cells #[.int .i64 ents,.slice (some ⟨g,0,none⟩) ks.length (ks.length+8)] 38);have HLm:=aB (HL1.out.below hm);refine(dZ _ draws _ (HD.out _ (hB1.trans (hm.mono (by omega))))).mono ?_
 rintro e w2 ⟨sa,sc,rfl,hb2,hLV⟩;have hz2:=hb2.size;rw[World.size_alloc]at hz2;have e0:=aA hb2 (aA hm d0 (by omega)) (by simp;omega)
 have e5:=aA hb2 (aA hm d5 (by omega)) (by simp;omega)
 have e6:=aA hb2 (aA hm d6 (by omega)) (by simp;omega)
 have e7:=aA hb2 (aA hm d7 (by omega)) (by simp;omega)
 have m0:w2.cell? ⟨w1.heap.size,0,none⟩=some (.int .i64 ents):=aA hb2 (by simp[go_sem]) (by simp)
 have m1:w2.cell? ⟨w1.heap.size,1,none⟩=some (.slice (some ⟨g,0,none⟩) ks.length (ks.length+8)):=aA hb2 (by simp[go_sem]) (by simp)
 have hB2:Below w.heap.size w w2:=hB1.trans ((hm.mono (by omega)).trans (hb2.mono (by simp;omega)))
 have HL2:=aB (HLm.out.below hb2);have HLV:=aB hLV;rw[World.size_alloc]at HLV;clear d0 d5 d6 d7 hLV
 go_wp2_with fail
 refine(rS ents _ _ ks draws _ ⟨hkl,.inr (.inl ⟨g,0,_,rfl,HL2.out.ghi,HL2.out.kinds⟩)⟩ (HLV.out.ints Hdl.out) hk hD).mono ?_;rintro e w3 ⟨rfl,hb3⟩;have hz3:=hb3.size;have f5:=aA hb3 e5 (by omega)
 have f6:=aA hb3 e6 (by omega)
 have f7:=aA hb3 e7 (by omega)
 have n0:=aA hb3 m0 (by omega)
 have n1:=aA hb3 m1 (by omega)
 have hB3:Below w.heap.size w w3:=hB2.trans (hb3.mono (by omega))
 have HL3:=aB (HL2.out.below hb3);clear e0 e5 e6 e7 m0 m1
 go_wp2_with fail
 refine(nS ents kb koff kcap _ ks draws _ hkl (by omega) (HK.out _ hB3) ((HD.out _ hB3).mono (by omega)) hk).mono ?_
 rintro e w4 hr4;rcases hr4.symm with⟨h1,_⟩|⟨_,rfl,hb4⟩
 ·rw[vI,hD]at h1;cases h1
 have hz4:=hb4.size;have g5:=aA hb4 f5 (by omega)
 have g6:=aA hb4 f6 (by omega)
 have g7:=aA hb4 f7 (by omega)
 have p0:=aA hb4 n0 (by omega)
 have p1:=aA hb4 n1 (by omega)
 have hB4:Below w.heap.size w w4:=hB3.trans (hb4.mono (by omega))
 have HL4:=aB (HL3.out.below hb4);clear f5 f6 f7 n0 n1
 go_wp2_with fail
 refine(eP ents ⟨kb,koff,none⟩ _ _ g hh kb koff kcap rs ks _ (fun _=>rfl) hkl HL4.out).mono ?_;rintro e w5 ⟨rfl,ho5⟩;have HS5:Hid (∀ k,(k=g∨∃ i:Nat,rs[i]?=some (some k))→w.heap.size+1<k∧k<w1.heap.size):=by
  rintro k (rfl|⟨i,hi⟩)
  ·have:=HL1.out.glo;have:=HL1.out.ghi;omega
  ·have hilt:i<ks.length:=by have:=(List.getElem?_eq_some_iff.1 hi).1;rw[HL1.out.len]at this;exact this
   have:=HL1.out.code i k ks[i] hi (by simp[hilt]);omega
 have hz5:=ho5.size;have q7:=ho5.at g7 (fun hs=>by have:=HS5.out _ hs;omega)
 have hB5:Below w.heap.size w w5:=hB4.trans (ho5.below (by omega) (fun k hk hs=>by have:=HS5.out _ hs;omega))
 have HLV5:=aB (((HLV.out.below hb3).below hb4).only ho5 (fun k hk hs=>by have:=HS5.out _ hs;omega))
 have Ho5:=aB ho5;clear g5 g6 g7 p0 p1 ho5
 go_wp2_with fail
 refine(eI (w1.heap.size+1) w2.heap.size _ draws sa sc _ ((HD.out _ hB5).mono (by omega)) HLV5.out (by
  intro g hg;rcases HLV.out with⟨_,h0,_⟩|⟨g',h1,_,_,_,h5,_⟩
  ·rw[h0]at hg;cases hg
  ·rw[h1]at hg;simp at hg;omega)).mono ?_
 rintro e w6 ⟨rfl,ho6⟩;have hB6:Below w.heap.size w w6:=hB5.trans (ho6.below (by omega) (by intro k hk hs;omega))
 have Ho6:=aB ho6;have hz6:=ho6.size;clear ho6
 go_wp2_with fail
 refine(lZ wb _).mono ?_;rintro e w7 ⟨rfl,rfl⟩
 go_wp2
 go_ret;exact⟨by simp,hB6.mono hbl,lv,ps,by omega,h.below hB6⟩
theorem yB{base:Nat}(wb:Nat)(lv:Value)(ps:List Pair)(bk:BookD)(a b c d ents:Int)(ka:Addr)(kb koff kcap:Nat)(ks:List (List Ins))(l:Value)(draws:List Int)(rv qv sv:Value)(w:World)(h:Inv base w wb lv ps bk)(hka:0<ks.length→ka=⟨kb,koff,none⟩)(hkl:ks.length≤5864062014805)(hkb:kb<base)(hK:KindsAt base w kb koff ks)(hd:IntsX base w l draws)(hk:bE ents ks=none)(hD:cO draws=true)(hlen:(ps.length+1)*16≤140737488355328) :
  Calls Tryz.prog 15 #[.pointer (some ⟨wb,0,none⟩),.agg #[.int .i64 2,.int .i64 a,.int .i64 b,.int .i64 c,.int .i64 d,.int .i64 ents,.slice (some ka) ks.length kcap,l,rv,qv,sv]] w
   fun e w'=>e=.returned (.bool true)∧Below base w w'∧∃ lv' ps',ps'.length≤ps.length+1∧Inv base w' wb lv' ps' bk:=by
 have hks:0<ks.length:=by
  cases ks with
  | nil=>rw[iL]at hk;cases hk
  | cons x l=>simp
 obtain rfl:=hka hks;have hbl:base≤w.heap.size:=Nat.le_trans h.blo (Nat.le_of_lt h.wlt);obtain⟨W,hW⟩:∃ W,W=w.alloc (.cells #[.int .i64 2,.int .i64 a,.int .i64 b,.int .i64 c,.int .i64 d,.int .i64 ents,.slice (some ⟨kb,koff,none⟩) ks.length kcap,l,rv,qv,sv] 41):=⟨_,rfl⟩;have hb:Below w.heap.size w W:=by rw[hW];exact(Below.refl _ _).alloc (Nat.le_refl _) _
 have hWs:W.heap.size=w.heap.size+1:=by rw[hW];simp
 have c0:W.cell? ⟨w.heap.size,0,none⟩=some (.int .i64 2):=by rw[hW];simp[go_sem]
 have c5:W.cell? ⟨w.heap.size,5,none⟩=some (.int .i64 ents):=by rw[hW];simp[go_sem]
 have c6:W.cell? ⟨w.heap.size,6,none⟩=some (.slice (some ⟨kb,koff,none⟩) ks.length kcap):=by rw[hW];simp[go_sem]
 have c7:W.cell? ⟨w.heap.size,7,none⟩=some l:=by rw[hW];simp[go_sem]
 obtain⟨la,lc,rfl⟩:=hd.form;have HK:Hid (∀ W:World,Below w.heap.size w W→KindsAt W.heap.size W kb koff ks):=by
  intro W hW;have:=hW.size;exact(hK.below (hW.mono hbl) hkb (Nat.le_refl _)).mono (by omega)
 have HD:Hid (∀ W:World,Below w.heap.size w W→IntsX base W (.slice la draws.length lc) draws):=by
  intro W hW;exact hd.below (hW.mono hbl)
 have hdl:=hd.len;have Hdl:=aB hdl;clear hd hK hdl
 go_enter Tryz.func15,Tryz.ntmps15
 go_wp2_with fail
 rw[←hW];refine(fI ents ⟨kb,koff,none⟩ kb koff kcap ks _ (fun _=>rfl) hkl (by omega) (HK.out W hb)).mono ?_
 rintro e w1 ⟨g,hh,rs,rfl,hb1,hL1⟩;have hz1:=hb1.size;have d0:=aA hb1 c0 (by omega)
 have d5:=aA hb1 c5 (by omega)
 have d6:=aA hb1 c6 (by omega)
 have d7:=aA hb1 c7 (by omega)
 have hB1:Below w.heap.size w w1:=hb.trans (hb1.mono (by omega))
 have hlt1:w.heap.size<w1.heap.size:=by omega
 have HL1:=aB hL1;clear c0 c5 c6 c7 hW hL1
 go_wp2_with fail
 have hm:=(Below.refl w1.heap.size w1).alloc (Nat.le_refl _) (.cells #[.int .i64 ents,.slice (some ⟨g,0,none⟩) ks.length (ks.length+8)] 38);have HLm:=aB (HL1.out.below hm);refine(dZ _ draws _ (HD.out _ (hB1.trans (hm.mono (by omega))))).mono ?_
 rintro e w2 ⟨sa,sc,rfl,hb2,hLV⟩;have hz2:=hb2.size;rw[World.size_alloc]at hz2;have e0:=aA hb2 (aA hm d0 (by omega)) (by simp;omega)
 have e5:=aA hb2 (aA hm d5 (by omega)) (by simp;omega)
 have e6:=aA hb2 (aA hm d6 (by omega)) (by simp;omega)
 have e7:=aA hb2 (aA hm d7 (by omega)) (by simp;omega)
 have m0:w2.cell? ⟨w1.heap.size,0,none⟩=some (.int .i64 ents):=aA hb2 (by simp[go_sem]) (by simp)
 have m1:w2.cell? ⟨w1.heap.size,1,none⟩=some (.slice (some ⟨g,0,none⟩) ks.length (ks.length+8)):=aA hb2 (by simp[go_sem]) (by simp)
 have hB2:Below w.heap.size w w2:=hB1.trans ((hm.mono (by omega)).trans (hb2.mono (by simp;omega)))
 have HL2:=aB (HLm.out.below hb2);have HLV:=aB hLV;rw[World.size_alloc]at HLV;clear d0 d5 d6 d7 hLV
 go_wp2_with fail
 refine(xT ents g 0 _ _ ks draws _ hkl HL2.out.ghi HL2.out.kinds (HLV.out.ints Hdl.out) hk hD).mono ?_;rintro e w3 ⟨xk,xq,xm,rfl,hb3,x1,x2,x3,hPk⟩;have HPk:=aB hPk;clear hPk;have hz3:=hb3.size;have f5:=aA hb3 e5 (by omega)
 have f6:=aA hb3 e6 (by omega)
 have f7:=aA hb3 e7 (by omega)
 have n0:=aA hb3 m0 (by omega)
 have n1:=aA hb3 m1 (by omega)
 have hB3:Below w.heap.size w w3:=hB2.trans (hb3.mono (by omega))
 have HL3:=aB (HL2.out.below hb3);clear e0 e5 e6 e7 m0 m1
 go_wp2_with fail
 refine(nS ents kb koff kcap _ ks draws _ hkl (by omega) (HK.out _ hB3) ((HD.out _ hB3).mono (by omega)) hk).mono ?_
 rintro e w4 hr4;rcases hr4 with⟨h1,_⟩|⟨_,xr,rfl,hb4,y1,y2,hPr⟩
 ·rw[vI,hD]at h1;cases h1
 have HPr:=aB hPr;clear hPr;have hz4:=hb4.size;have g5:=aA hb4 f5 (by omega)
 have g6:=aA hb4 f6 (by omega)
 have g7:=aA hb4 f7 (by omega)
 have p0:=aA hb4 n0 (by omega)
 have p1:=aA hb4 n1 (by omega)
 have hB4:Below w.heap.size w w4:=hB3.trans (hb4.mono (by omega))
 have HL4:=aB (HL3.out.below hb4);clear f5 f6 f7 n0 n1
 go_wp2_with fail
 refine(eP ents ⟨kb,koff,none⟩ _ _ g hh kb koff kcap rs ks _ (fun _=>rfl) hkl HL4.out).mono ?_;rintro e w5 ⟨rfl,ho5⟩;have HS5:Hid (∀ k,(k=g∨∃ i:Nat,rs[i]?=some (some k))→w.heap.size+1<k∧k<w1.heap.size):=by
  rintro k (rfl|⟨i,hi⟩)
  ·have:=HL1.out.glo;have:=HL1.out.ghi;omega
  ·have hilt:i<ks.length:=by have:=(List.getElem?_eq_some_iff.1 hi).1;rw[HL1.out.len]at this;exact this
   have:=HL1.out.code i k ks[i] hi (by simp[hilt]);omega
 have hz5:=ho5.size;have q7:=ho5.at g7 (fun hs=>by have:=HS5.out _ hs;omega)
 have hB5:Below w.heap.size w w5:=hB4.trans (ho5.below (by omega) (fun k hk hs=>by have:=HS5.out _ hs;omega))
 have HLV5:=aB (((HLV.out.below hb3).below hb4).only ho5 (fun k hk hs=>by have:=HS5.out _ hs;omega))
 have Ho5:=aB ho5;clear g5 g6 g7 p0 p1 ho5
 go_wp2_with fail
 refine(eI (w1.heap.size+1) w2.heap.size _ draws sa sc _ ((HD.out _ hB5).mono (by omega)) HLV5.out (by
  intro g hg;rcases HLV.out with⟨_,h0,_⟩|⟨g',h1,_,_,_,h5,_⟩
  ·rw[h0]at hg;cases hg
  ·rw[h1]at hg;simp at hg;omega)).mono ?_
 rintro e w6 ⟨rfl,ho6⟩;have hB6:Below w.heap.size w w6:=hB5.trans (ho6.below (by omega) (by intro k hk hs;omega))
 have Ho6:=aB ho6;have hz6:=ho6.size;clear ho6
 go_wp2_with fail
 have hlt3:=HPk.out.lt;obtain⟨p,hp⟩:∃ p:Pair,p=⟨xk,xq,xm,xr,w2.heap.size,.slice none 0 0,ents,ks,draws,ks0,fun b=>w2.heap.size≤b∧b<w3.heap.size∧b≠xk∧b≠xq∧b≠xm,fun b=>w3.heap.size≤b∧b<w4.heap.size∧b≠xr⟩:=⟨_,rfl⟩;have hset:∀ x,bG xk xq xm (.slice none 0 0) x→w2.heap.size≤x∧x<w3.heap.size:=by
  intro x hx;refine⟨?_,hlt3 x hx⟩;rcases hx with e|e|e|e
  ·omega
  ·omega
  ·omega
  ·simp[Value.ownBlock]at e
 have hown:∀ x,p.own x→w2.heap.size≤x∧x<w4.heap.size:=by
  rw[hp];rintro x ((hx|hx)|hx|hx)
  ·have:=hset x hx;omega
  ·have hx:x=xr:=hx;omega
  ·have hx:w2.heap.size≤x∧x<w3.heap.size∧_:=hx;omega
  ·have hx:w3.heap.size≤x∧x<w4.heap.size∧_:=hx;omega
 have hpair:PairOK w6 p:=by
  have h4:PairOK w4 p:=by
   rw[hp];refine⟨HPk.out.below hb4,?_,fit0 _ _ _,fun j _=>rfl,hk,hD,by show w2.heap.size≤_;omega,by show xr<_;omega,?_,?_,?_⟩
   ·show RefK _ w4 xr ents ks draws ((0:Nat):Int) 0 1 (cY ents ks0) [];have e1:cY ents ks0=List.replicate (ents*4).toNat 0:=by
     unfold cY
     apply List.ext_getElem?
     intro j
     by_cases hj:j<(ents*4).toNat
     ·simp[hj,ks0]
     ·simp[hj]
    rw[e1];exact HPr.out
   ·intro x hx;have hx:w3.heap.size≤x∧x<w4.heap.size∧x≠xr:=hx;exact⟨hx.2.1,hx.2.2,fun hc=>by have:=hset x hc;omega⟩
   ·intro x hx;have hx:w2.heap.size≤x∧x<w3.heap.size∧_:=hx;show x≠xr;omega
   ·intro hc;have:=hset xr hc;omega
  refine(h4.only Ho5.out ?_).only Ho6.out ?_
  ·intro x hx hs;have:=HS5.out x hs;have:=hown x hx;omega
  ·intro x hx hs;have:=hown x hx;omega
 have hkb:p.kb=xk:=by rw[hp]
 have hrb:p.rb=xr:=by rw[hp]
 have H1:=xY (base:=base) (w0:=w) wb lv ps p bk _ h hB6 hpair (fun x hx=>by have:=hown x hx;omega) hlen hbl
 rw[hkb,hrb]at H1;refine H1.mono ?_;rintro e w7 ⟨rfl,hB7,lv',hI7⟩;have HI7:=aB hI7;clear hI7 hpair hown hset hlt3 H1
 go_wp2
 go_ret;exact⟨by simp,hB7,lv',_,by simp,HI7.out⟩
def gH(c:Int)(n:Nat):Nat:=((if c<0 then -(c+1)else c) % n).toNat
theorem zJ(c:Int)(n:Nat)(h:0<n):gH c n<n:=by
 unfold gH;have h1:=Int.emod_nonneg (if c<0 then -(c+1)else c) (show(n:Int)≠0 by omega)
 have h2:=Int.emod_lt_of_pos (if c<0 then -(c+1)else c) (show 0<(n:Int) by omega)
 omega
theorem zK(c:Int)(n:Nat)(w:World)(hn:0<n)(hn':n≤9223372036854775807)(hc1:-9223372036854775808≤c)(hc2:c≤9223372036854775807) :
  Calls Tryz.prog 18 #[.int .i64 c,.int .i64 n] w fun e w'=>e=.returned (.int .i64 (gH c n:Nat))∧w'=w:=by
 have hz:((n:Int)==0)=false:=by simp;omega
 by_cases h:c<0
 ·have HP:Hid ((gH c n:Nat)=(-(c+1)) % (n:Int)):=by
   show _=_;unfold gH;rw[if_pos h];exact Int.toNat_of_nonneg (Int.emod_nonneg _ (by omega))
  go_enter Tryz.func18,Tryz.ntmps18
  go_wp2
  go_ret;have ht:(-(c+1)).tmod (n:Int)=-(c+1) % (n:Int):=Int.tmod_eq_emod_of_nonneg (by omega)
  rw[Int.neg_tmod]at ht;exact⟨by rw[HP.out,←ht];simp,rfl⟩
 ·have HP:Hid ((gH c n:Nat)=c % (n:Int)):=by
   show _=_;unfold gH;rw[if_neg h];exact Int.toNat_of_nonneg (Int.emod_nonneg _ (by omega))
  go_enter Tryz.func18,Tryz.ntmps18
  go_wp2
  go_ret;exact⟨by rw[HP.out];simp,rfl⟩
def fD(l:List Int)(k:Int):Bool:=l.contains k
theorem aD8(b off cap:Nat)(l:List Int)(k:Int)(w:World)(hl:l.length≤1000)(hc:RowAt w b off (ints l)) :
  Calls Tryz.prog 10 #[.slice (some ⟨b,off,none⟩) l.length cap,.int .i64 k] w fun e w'=>e=.returned (.bool (fD l k))∧w'=w:=by
 go_enter Tryz.func10,Tryz.ntmps10
 go_wp2
 go_loop [5] (fun i=>∃ j:Nat,j≤l.length∧i=.int .i64 j∧Hid (fD (l.drop j) k=fD l k)) (fun i=>l.length-(intOf i).toNat)
 case atStart=>exact⟨0,by omega,rfl,rfl⟩
 case round=>
  obtain⟨j,hj,rfl,hI⟩:=hrel
  by_cases hlt:j<l.length
  ·have hx:w.cell? ⟨b,off+j,none⟩=some (.int .i64 l[j]):=hc j _ (by simp[ints,hlt])
   have hd:fD (l.drop j) k=(k==l[j]||fD (l.drop (j+1)) k):=by
    rw[List.drop_eq_getElem_cons hlt,fD,List.contains_cons];rfl
   by_cases he:l[j]=k
   ·have he':(l[j]==k)=true:=by simpa using he
    have HT:Hid (fD l k=true):=by show _=_;rw[←hI.out,hd,he];simp
    clear hd he
    go_wp2
    go_ret;exact⟨by rw[HT.out];simp,rfl⟩
   ·have he':(l[j]==k)=false:=by simpa using he
    have HN:Hid (fD (l.drop (j+1)) k=fD l k):=by
     show _=_;rw[←hI.out,hd];have:(k==l[j])=false:=by simp;exact fun e=>he e.symm
     rw[this];simp
    clear hd he
    go_wp2
    go_round
    case rel=>exact⟨j+1,by omega,by go_num,HN⟩
    case measure=>simp[intOf];omega
  ·have HN:Hid (fD l k=false):=by
    show _=_;rw[←hI.out,List.drop_of_length_le (by omega)];rfl
   go_wp2
   go_ret;exact⟨by rw[HN.out];simp,rfl⟩
structure OpD where
 kind:Int
 a:Int
 b:Int
 c:Int
 d:Int
 ents:Int
 kv:Value
 l:Value
 rv:Value
 qv:Value
 sv:Value
 ks:List (List Ins)
 draws:List Int
def dJ(o:OpD):List Value:=[.int .i64 o.kind,.int .i64 o.a,.int .i64 o.b,.int .i64 o.c,.int .i64 o.d,.int .i64 o.ents,o.kv,o.l,o.rv,o.qv,o.sv]
structure OpOK(B:Nat)(w:World)(o:OpD):Prop where
 kinds:KindsV B w o.kv o.ks
 draws:IntsX B w o.l o.draws
 alo:-9223372036854775808≤o.a
 ahi:o.a≤9223372036854775807
 rform:∃ a n c,o.rv=.slice a n c
 qform:∃ a n c,o.qv=.slice a n c
 sform:∃ s,o.sv=.string s
theorem OpOK.below{B:Nat}{w w':World}{o:OpD}(h:OpOK B w o)(hb:Below B w w'):OpOK B w' o:=
 ⟨h.kinds.below hb,h.draws.below hb,h.alo,h.ahi,h.rform,h.qform,h.sform⟩
theorem aDx{base:Nat}(wb:Nat)(lv:Value)(ps:List Pair)(bk:BookD)(o:OpD)(w:World)(h:Inv base w wb lv ps bk)(ho:OpOK base w o)(hk:o.kind=1∨o.kind=2)(hlen:(ps.length+1)*16≤140737488355328)(hb0:0<base) :
  Calls Tryz.prog 15 #[.pointer (some ⟨wb,0,none⟩),.agg #[.int .i64 o.kind,.int .i64 o.a,.int .i64 o.b,.int .i64 o.c,.int .i64 o.d,.int .i64 o.ents,o.kv,o.l,o.rv,o.qv,o.sv]] w
   fun e w'=>e=.returned (.bool true)∧Below base w w'∧∃ lv' ps',ps'.length≤ps.length+1∧Inv base w' wb lv' ps' bk:=by
 obtain⟨kind,a,b,c,d,ents,kv,l,rv,qv,sv,ks,draws⟩:=o;obtain⟨⟨hkl,hkk⟩,hd,_,_,_,_,_⟩:=ho;simp only at hkl hkk hd hk ⊢;rcases hk with rfl|rfl
 ·rcases hkk with⟨rfl,rfl⟩|⟨kb,koff,kcap,rfl,hkb,hK⟩|⟨ka,kcap,rfl,rfl⟩
  ·exact sM wb lv ps bk a b c d ents l rv qv sv w h
  ·exact lL wb lv ps bk a b c d ents ⟨kb,koff,none⟩ kb koff kcap ks l rv qv sv w h (fun _=>rfl) hkl hkb hK
  ·exact lL wb lv ps bk a b c d ents ka 0 0 kcap [] l rv qv sv w h (fun h=>by simp at h) hkl hb0 (fun i l hl=>by simp at hl)
 ·have key:∀ (ka:Addr) (kb koff kcap:Nat),(0<ks.length→ka=⟨kb,koff,none⟩)→kb<base→KindsAt base w kb koff ks→kv=.slice (some ka) ks.length kcap →
    Calls Tryz.prog 15 #[.pointer (some ⟨wb,0,none⟩),.agg #[.int .i64 2,.int .i64 a,.int .i64 b,.int .i64 c,.int .i64 d,.int .i64 ents,kv,l,rv,qv,sv]] w
     fun e w'=>e=.returned (.bool true)∧Below base w w'∧∃ lv' ps',ps'.length≤ps.length+1∧Inv base w' wb lv' ps' bk:=by
   rintro ka kb koff kcap hka hkb hK rfl;rcases hf:bE ents ks with _|p
   ·rcases hD:cO draws with _|_
    ·exact sO wb lv ps bk a b c d ents ka kb koff kcap ks l draws rv qv sv w h hka hkl hkb hK hd hf hD
    ·exact yB wb lv ps bk a b c d ents ka kb koff kcap ks l draws rv qv sv w h hka hkl hkb hK hd hf hD hlen
   ·exact sN wb lv ps bk a b c d ents ka kb koff kcap ks l draws rv qv sv w h hka hkl hkb hK hd p hf
  rcases hkk with⟨rfl,rfl⟩|⟨kb,koff,kcap,rfl,hkb,hK⟩|⟨ka,kcap,rfl,rfl⟩
  ·exact xC wb lv ps bk a b c d ents l draws rv qv sv w h hd
  ·exact key ⟨kb,koff,none⟩ kb koff kcap (fun _=>rfl) hkb hK rfl
  ·exact key ka 0 0 kcap (fun h=>by simp at h) hb0 (fun i l hl=>by simp at hl) rfl
theorem aB8{base:Nat}(wb:Nat)(lv:Value)(ps:List Pair)(bk:BookD)(o:OpD)(w:World)(h:Inv base w wb lv ps bk)(ho:OpOK base w o)(hk:o.kind=1∨o.kind=2)(hlen:(ps.length+1)*16≤140737488355328)(hb0:0<base) :
  Calls Tryz.prog 11 #[.pointer (some ⟨wb,0,none⟩),.agg #[.int .i64 o.kind,.int .i64 o.a,.int .i64 o.b,.int .i64 o.c,.int .i64 o.d,.int .i64 o.ents,o.kv,o.l,o.rv,o.qv,o.sv]] w
   fun e w'=>e=.returned (.bool true)∧Below base w w'∧∃ lv' ps',ps'.length≤ps.length+1∧Inv base w' wb lv' ps' bk:=by
 have hbl:base≤w.heap.size:=Nat.le_trans h.blo (Nat.le_of_lt h.wlt);obtain⟨W,hW⟩:∃ W,W=w.alloc (.cells #[.int .i64 o.kind,.int .i64 o.a,.int .i64 o.b,.int .i64 o.c,.int .i64 o.d,.int .i64 o.ents,o.kv,o.l,o.rv,o.qv,o.sv] 41):=⟨_,rfl⟩;have hb:Below w.heap.size w W:=by rw[hW];exact(Below.refl _ _).alloc (Nat.le_refl _) _
 have HM:=aB (aDx wb lv ps bk o W (h.below hb) (ho.below (hb.mono hbl)) hk hlen hb0);have hk1:(o.kind==1)=true∨((o.kind==1)=false∧(o.kind==2)=true):=by rcases hk with e|e<;>simp[e]
 clear hk;rcases hk1 with hk1|⟨hk1,hk2⟩
 all_goals
  go_enter Tryz.func11,Tryz.ntmps11
  go_wp2_with fail
  rw[←hW];refine HM.out.mono ?_;rintro e w1 ⟨rfl,hB,hI⟩;have HI:=aB hI;clear hI
  go_wp2
  go_ret;exact⟨rfl,(hb.mono hbl).trans hB,HI.out⟩
theorem aB9{base:Nat}(wb:Nat)(lv:Value)(bk:BookD)(o:OpD)(w:World)(h:Inv base w wb lv [] bk)(hk:3≤o.kind∧o.kind≤9∧o.kind≠8) :
  Calls Tryz.prog 11 #[.pointer (some ⟨wb,0,none⟩),.agg #[.int .i64 o.kind,.int .i64 o.a,.int .i64 o.b,.int .i64 o.c,.int .i64 o.d,.int .i64 o.ents,o.kv,o.l,o.rv,o.qv,o.sv]] w
   fun e w'=>e=.returned (.bool true)∧Below base w w'∧∃ lv' ps',ps'.length≤([]:List Pair).length+1∧Inv base w' wb lv' ps' bk:=by
 have hbl:base≤w.heap.size:=Nat.le_trans h.blo (Nat.le_of_lt h.wlt);have HI:=aB h;have hcell:=h.cell;obtain⟨la,lc,rfl⟩:=bF h.owns;have hwl:=h.wlt;have k1:(o.kind==1)=false:=by simp;omega
 have k2:(o.kind==2)=false:=by simp;omega
 have k8:(o.kind==8)=false:=by simp;omega
 have k10:decide (10≤o.kind)=false:=by simp;omega
 have k3:decide (o.kind<3)=false:=by simp;omega
 have k9:decide (9<o.kind)=false:=by simp;omega
 clear hk h
 go_enter Tryz.func11,Tryz.ntmps11
 go_wp2
 go_ret;have hb:Below w.heap.size w _:=(Below.refl w.heap.size w).alloc (Nat.le_refl _) (.cells #[.int .i64 o.kind,.int .i64 o.a,.int .i64 o.b,.int .i64 o.c,.int .i64 o.d,.int .i64 o.ents,o.kv,o.l,o.rv,o.qv,o.sv] 41);exact⟨rfl,hb.mono hbl,_,[],by simp,HI.out.below hb⟩
end Go.Proofs.YtndlmgocldckfaaGreat
