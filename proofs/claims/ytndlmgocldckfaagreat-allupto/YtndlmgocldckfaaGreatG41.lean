import Derived.Test.YtndlmgocldckfaaGreatG18
import Derived.Test.YtndlmgocldckfaaGreatG39
namespace Go.Proofs.YtndlmgocldckfaaGreat
open Go.RowKit
set_option linter.unusedVariables false
set_option linter.unusedSimpArgs false
set_option maxRecDepth 100000
set_option maxHeartbeats 4000000
theorem vH{base:Nat}(wb:Nat)(lv:Value)(ps:List Pair)(bk:BookD)(a b c d ents:Int)(ka:Addr)(kb koff kcap:Nat)(ks:List (List Ins))(l:Value)(draws:List Int)(rv qv:Value)(bl:List Int)(w:World)(h:Inv base w wb lv ps bk)(hka:0<ks.length→ka=⟨kb,koff,none⟩)(hkl:ks.length≤5864062014805)(hkb:kb<base)(hK:KindsAt base w kb koff ks)(hd:IntsX base w l draws)(hv:∀ c∈bl,0≤c∧c<256)(hbl8:bl.length≤1000000000)(hlen:(ps.length+1)*16≤140737488355328) :
  Calls Tryz.prog 15 #[.pointer (some ⟨wb,0,none⟩),.agg #[.int .i64 8,.int .i64 a,.int .i64 b,.int .i64 c,.int .i64 d,.int .i64 ents,.slice (some ka) ks.length kcap,l,rv,qv,.string (aH bl)]] w
   fun e w'=>e=.returned (.bool true)∧Below base w w'∧∃ lv' ps',ps'.length≤ps.length+1∧Inv base w' wb lv' ps' bk:=by
 have hbl:base≤w.heap.size:=Nat.le_trans h.blo (Nat.le_of_lt h.wlt);obtain⟨W,hW⟩:∃ W,W=w.alloc (.cells #[.int .i64 8,.int .i64 a,.int .i64 b,.int .i64 c,.int .i64 d,.int .i64 ents,.slice (some ka) ks.length kcap,l,rv,qv,.string (aH bl)] 41):=⟨_,rfl⟩;have hb:Below w.heap.size w W:=by rw[hW];exact(Below.refl _ _).alloc (Nat.le_refl _) _
 have hWs:W.heap.size=w.heap.size+1:=by rw[hW];simp
 have c0:W.cell? ⟨w.heap.size,0,none⟩=some (.int .i64 8):=by rw[hW];simp[go_sem]
 have c2:W.cell? ⟨w.heap.size,2,none⟩=some (.int .i64 b):=by rw[hW];simp[go_sem]
 have c5:W.cell? ⟨w.heap.size,5,none⟩=some (.int .i64 ents):=by rw[hW];simp[go_sem]
 have c6:W.cell? ⟨w.heap.size,6,none⟩=some (.slice (some ka) ks.length kcap):=by rw[hW];simp[go_sem]
 have c7:W.cell? ⟨w.heap.size,7,none⟩=some l:=by rw[hW];simp[go_sem]
 have cS:W.cell? ⟨w.heap.size,10,none⟩=some (.string (aH bl)):=by rw[hW];simp[go_sem]
 obtain⟨la,lc,rfl⟩:=hd.form;have HK:Hid (∀ W:World,Below w.heap.size w W→KindsAt W.heap.size W kb koff ks):=by
  intro W hW;have:=hW.size;exact(hK.below (hW.mono hbl) hkb (Nat.le_refl _)).mono (by omega)
 have HD:Hid (∀ W:World,Below w.heap.size w W→IntsX base W (.slice la draws.length lc) draws):=by
  intro W hW;exact hd.below (hW.mono hbl)
 have hdl:=hd.len;have Hdl:=aB hdl;have Hv:=aB hv;have Hbl8:=aB hbl8;clear hd hK hdl hv hbl8
 go_enter Tryz.func15,Tryz.ntmps15
 go_wp2_with fail
 rw[←hW];refine(fI ents ka kb koff kcap ks _ hka hkl (by omega) (HK.out W hb)).mono ?_
 rintro e w1 ⟨g,hh,rs,rfl,hb1,hL1⟩;have hz1:=hb1.size;have d0:=aA hb1 c0 (by omega)
 have d2:=aA hb1 c2 (by omega)
 have d5:=aA hb1 c5 (by omega)
 have d6:=aA hb1 c6 (by omega)
 have d7:=aA hb1 c7 (by omega)
 have dS:=aA hb1 cS (by omega)
 have hB1:Below w.heap.size w w1:=hb.trans (hb1.mono (by omega))
 have hlt1:w.heap.size<w1.heap.size:=by omega
 have HL1:=aB hL1;clear c0 c2 c5 c6 c7 cS hW hL1
 go_wp2_with fail
 have hm:=(Below.refl w1.heap.size w1).alloc (Nat.le_refl _) (.cells #[.int .i64 ents,.slice (some ⟨g,0,none⟩) ks.length (ks.length+8)] 38);have HLm:=aB (HL1.out.below hm);refine(dZ _ draws _ (HD.out _ (hB1.trans (hm.mono (by omega))))).mono ?_
 rintro e w2 ⟨sa,sc,rfl,hb2,hLV⟩;have hz2:=hb2.size;rw[World.size_alloc]at hz2;have e0:=aA hb2 (aA hm d0 (by omega)) (by simp;omega)
 have e2:=aA hb2 (aA hm d2 (by omega)) (by simp;omega)
 have e5:=aA hb2 (aA hm d5 (by omega)) (by simp;omega)
 have e6:=aA hb2 (aA hm d6 (by omega)) (by simp;omega)
 have e7:=aA hb2 (aA hm d7 (by omega)) (by simp;omega)
 have eS:=aA hb2 (aA hm dS (by omega)) (by simp;omega)
 have m0:w2.cell? ⟨w1.heap.size,0,none⟩=some (.int .i64 ents):=aA hb2 (by simp[go_sem]) (by simp)
 have m1:w2.cell? ⟨w1.heap.size,1,none⟩=some (.slice (some ⟨g,0,none⟩) ks.length (ks.length+8)):=aA hb2 (by simp[go_sem]) (by simp)
 have hB2:Below w.heap.size w w2:=hB1.trans ((hm.mono (by omega)).trans (hb2.mono (by simp;omega)))
 have HL2:=aB (HLm.out.below hb2);have HLV:=aB hLV;rw[World.size_alloc]at HLV;clear d0 d2 d5 d6 d7 dS hLV
 go_wp2_with fail
 refine(jV bl b _ Hbl8.out Hv.out).mono ?_;rintro e wz ⟨za,zc,rfl,hbz,hLZ⟩;have hzz:=hbz.size;have e5:=aA hbz e5 (by omega)
 have e6:=aA hbz e6 (by omega)
 have e7:=aA hbz e7 (by omega)
 have eS:=aA hbz eS (by omega)
 have m0:=aA hbz m0 (by omega)
 have m1:=aA hbz m1 (by omega)
 have hBz:Below w.heap.size w wz:=hB2.trans (hbz.mono (by omega))
 have HL2:=aB (HL2.out.below hbz);have HLVz:=aB (HLV.out.below hbz);have HLZ:=aB hLZ;clear e0 e2 hLZ
 go_wp2_with fail
 have HT:=vB ents g 0 (ks.length+8) (.slice sa draws.length sc) ks draws za zc bl wz hkl HL2.out.ghi HL2.out.kinds (HLVz.out.ints Hdl.out) (HLZ.out.bytes Hv.out Hbl8.out);obtain⟨E,hE⟩:∃ E,E=jU ents ks draws bl:=⟨_,rfl⟩;rw[←hE]at HT;refine HT.mono ?_;rintro e w3 ⟨pk,rfl,hb3,hk1,hk2⟩;have Hk1:=aB hk1;have Hk2:=aB hk2;have hz3:=hb3.size;have f5:=aA hb3 e5 (by omega)
 have f6:=aA hb3 e6 (by omega)
 have f7:=aA hb3 e7 (by omega)
 have fS:=aA hb3 eS (by omega)
 have n0:=aA hb3 m0 (by omega)
 have n1:=aA hb3 m1 (by omega)
 have hB3:Below w.heap.size w w3:=hBz.trans (hb3.mono (by omega))
 have HL3:=aB (HL2.out.below hb3);clear e5 e6 e7 eS m0 m1 HT hk1 hk2
 go_wp2_with fail
 have HT:=vC ents ka kb koff kcap (.slice la draws.length lc) ks draws bl w3 hka hkl (by omega) (HK.out _ hB3) ((HD.out _ hB3).mono (by omega)) Hv.out Hbl8.out
 rw[←hE]at HT;refine HT.mono ?_;rintro e w4 ⟨pr,rfl,hb4,hr1,hr2⟩;have Hr1:=aB hr1;have Hr2:=aB hr2;have hz4:=hb4.size;have g5:=aA hb4 f5 (by omega)
 have g6:=aA hb4 f6 (by omega)
 have g7:=aA hb4 f7 (by omega)
 have gS:=aA hb4 fS (by omega)
 have p0:=aA hb4 n0 (by omega)
 have p1:=aA hb4 n1 (by omega)
 have hB4:Below w.heap.size w w4:=hB3.trans (hb4.mono (by omega))
 have HL4:=aB (HL3.out.below hb4);clear f5 f6 f7 fS n0 n1 HT hr1 hr2
 go_wp2_with fail
 refine(eP ents ka _ _ g hh kb koff kcap rs ks _ hka hkl HL4.out).mono ?_;rintro e w5 ⟨rfl,ho5⟩;have HS5:Hid (∀ k,(k=g∨∃ i:Nat,rs[i]?=some (some k))→w.heap.size+1<k∧k<w1.heap.size):=by
  rintro k (rfl|⟨i,hi⟩)
  ·have:=HL1.out.glo;have:=HL1.out.ghi;omega
  ·have hilt:i<ks.length:=by have:=(List.getElem?_eq_some_iff.1 hi).1;rw[HL1.out.len]at this;exact this
   have:=HL1.out.code i k ks[i] hi (by simp[hilt]);omega
 have hz5:=ho5.size;have q7:=ho5.at g7 (fun hs=>by have:=HS5.out _ hs;omega)
 have qS:=ho5.at gS (fun hs=>by have:=HS5.out _ hs;omega)
 have hB5:Below w.heap.size w w5:=hB4.trans (ho5.below (by omega) (fun k hk hs=>by have:=HS5.out _ hs;omega))
 have HLV5:=aB (((HLVz.out.below hb3).below hb4).only ho5 (fun k hk hs=>by have:=HS5.out _ hs;omega))
 have HLZ5:=aB (((HLZ.out.below hb3).below hb4).only ho5 (fun k hk hs=>by have:=HS5.out _ hs;omega))
 have Ho5:=aB ho5;clear g5 g6 g7 gS p0 p1 ho5
 go_wp2_with fail
 refine(eI (w1.heap.size+1) w2.heap.size _ draws sa sc _ ((HD.out _ hB5).mono (by omega)) HLV5.out (by
  intro g hg;rcases HLV.out with⟨_,h0,_⟩|⟨g',h1,_,_,_,h5,_⟩
  ·rw[h0]at hg;cases hg
  ·rw[h1]at hg;simp at hg;omega)).mono ?_
 rintro e w6 ⟨rfl,ho6⟩;have hB6:Below w.heap.size w w6:=hB5.trans (ho6.below (by omega) (by intro k hk hs;omega))
 have qS:=ho6.at qS (fun hs=>by omega)
 have HLZ6:=aB (HLZ5.out.only ho6 (by intro k hk hs;omega))
 have Ho6:=aB ho6;have hz6:=ho6.size;clear ho6 q7
 go_wp2_with fail
 refine(gB w2.heap.size wz.heap.size bl za zc _ Hbl8.out Hv.out HLZ6.out (by
  intro g hg;rcases HLZ.out with⟨h0,_⟩|⟨g',h1,_,_,h5,_⟩
  ·rw[h0]at hg;cases hg
  ·rw[h1]at hg;simp at hg;omega)).mono ?_
 rintro e w7 ⟨rfl,ho7⟩;have hB7:Below w.heap.size w w7:=hB6.trans (ho7.below (by omega) (by intro k hk hs;omega))
 have Ho7:=aB ho7;have hz7:=ho7.size;clear ho7 qS
 go_wp2_with fail
 by_cases h0:E=0
 ·obtain⟨xk,xq,xm,ov,R,xb,rfl,⟨b1,b2⟩,hset,hR,hPk⟩:=Hk2.out h0;obtain⟨s1,s2,s3,s4,xr,Q,rfl,y1,y2,hQ,hPr⟩:=Hr2.out h0;have hlt3:=hPk.lt;have hrlt3:=hPk.rlt;obtain⟨p,hp⟩:∃ p:Pair,p=⟨xk,xq,xm,xr,xb,ov,ents,ks,draws,nP ents ks draws bl,R,Q⟩:=⟨_,rfl⟩;have hset:∀ x,bG xk xq xm ov x→wz.heap.size≤x∧x<w3.heap.size:=fun x hx=>⟨by have:=hset x hx;omega,hlt3 x hx⟩
  have hown:∀ x,p.own x→wz.heap.size≤x∧x<w4.heap.size:=by
   rw[hp];rintro x ((hx|hx)|hx|hx)
   ·have:=hset x hx;omega
   ·have hx:x=xr:=hx;omega
   ·have hx:R x:=hx;have:=hR x hx;have:=hrlt3 x hx;omega
   ·have hx:Q x:=hx;have:=hQ x hx;omega
  have hpair:PairOK w7 p:=by
   have h4:PairOK w4 p:=by
    rw[hp];refine⟨hPk.below hb4,hPr,s1,s2,s3,s4,by show xb≤_;omega,by show xr<_;omega,?_,?_,?_⟩
    ·intro x hx;have hx:Q x:=hx;have:=hQ x hx;exact⟨this.2.1,this.2.2,fun hc=>by have:=hset x hc;omega⟩
    ·intro x hx;have hx:R x:=hx;have:=hrlt3 x hx;show x≠xr;omega
    ·intro hc;have:=hset xr hc;omega
   refine((h4.only Ho5.out ?_).only Ho6.out ?_).only Ho7.out ?_
   ·intro x hx hs;have:=HS5.out x hs;have:=hown x hx;omega
   ·intro x hx hs;have:=hown x hx;omega
   ·intro x hx hs;have:=hown x hx;omega
  have hkb:p.kb=xk:=by rw[hp]
  have hrb:p.rb=xr:=by rw[hp]
  have H1:=xY (base:=base) (w0:=w) wb lv ps p bk _ h hB7 hpair (fun x hx=>by have:=hown x hx;omega) hlen hbl
  rw[hkb,hrb]at H1;refine H1.mono ?_;rintro e w8 ⟨rfl,hB8,lv',hI8⟩;have HI8:=aB hI8;clear hI8 hpair hown hset hlt3 hrlt3 H1 hPk hPr hQ hR s1 s2 s3 s4
  go_wp2
  go_ret;exact⟨by simp,hB8,lv',_,by simp,HI8.out⟩
 ·obtain rfl:=Hk1.out h0;obtain rfl:=Hr1.out h0;refine(lZ wb _).mono ?_;rintro e w8 ⟨rfl,rfl⟩
  go_wp2
  go_ret;exact⟨by simp,hB7.mono hbl,lv,ps,by omega,h.below hB7⟩
theorem uP{base:Nat}(wb:Nat)(lv:Value)(ps:List Pair)(bk:BookD)(a b c d ents:Int)(l:Value)(draws:List Int)(rv qv:Value)(bl:List Int)(w:World)(h:Inv base w wb lv ps bk)(hd:IntsX base w l draws)(hv:∀ c∈bl,0≤c∧c<256)(hbl8:bl.length≤1000000000) :
  Calls Tryz.prog 15 #[.pointer (some ⟨wb,0,none⟩),.agg #[.int .i64 8,.int .i64 a,.int .i64 b,.int .i64 c,.int .i64 d,.int .i64 ents,.slice none 0 0,l,rv,qv,.string (aH bl)]] w
   fun e w'=>e=.returned (.bool true)∧Below base w w'∧∃ lv' ps',ps'.length≤ps.length+1∧Inv base w' wb lv' ps' bk:=by
 have hbl:base≤w.heap.size:=Nat.le_trans h.blo (Nat.le_of_lt h.wlt);obtain⟨W,hW⟩:∃ W,W=w.alloc (.cells #[.int .i64 8,.int .i64 a,.int .i64 b,.int .i64 c,.int .i64 d,.int .i64 ents,.slice none 0 0,l,rv,qv,.string (aH bl)] 41):=⟨_,rfl⟩;have hb:Below w.heap.size w W:=by rw[hW];exact(Below.refl _ _).alloc (Nat.le_refl _) _
 have hWs:W.heap.size=w.heap.size+1:=by rw[hW];simp
 have c0:W.cell? ⟨w.heap.size,0,none⟩=some (.int .i64 8):=by rw[hW];simp[go_sem]
 have c2:W.cell? ⟨w.heap.size,2,none⟩=some (.int .i64 b):=by rw[hW];simp[go_sem]
 have c5:W.cell? ⟨w.heap.size,5,none⟩=some (.int .i64 ents):=by rw[hW];simp[go_sem]
 have c6:W.cell? ⟨w.heap.size,6,none⟩=some (.slice none 0 0):=by rw[hW];simp[go_sem]
 have c7:W.cell? ⟨w.heap.size,7,none⟩=some l:=by rw[hW];simp[go_sem]
 have cS:W.cell? ⟨w.heap.size,10,none⟩=some (.string (aH bl)):=by rw[hW];simp[go_sem]
 obtain⟨la,lc,rfl⟩:=hd.form;have HD:Hid (∀ W:World,Below w.heap.size w W→IntsX base W (.slice la draws.length lc) draws):=by
  intro W hW;exact hd.below (hW.mono hbl)
 have Hv:=aB hv;have Hbl8:=aB hbl8;clear hd hv hbl8;have hkn:∀ (W:World) (B:Nat),KindsV B W (.slice none 0 0) []:=fun W B=>⟨by simp,.inl ⟨rfl,rfl⟩⟩
 go_enter Tryz.func15,Tryz.ntmps15
 go_wp2_with fail
 rw[←hW];refine(jT ents _).mono ?_;rintro e w1 ⟨rfl,hb1⟩;have hz1:=hb1.size;have d0:=aA hb1 c0 (by omega)
 have d2:=aA hb1 c2 (by omega)
 have d5:=aA hb1 c5 (by omega)
 have d6:=aA hb1 c6 (by omega)
 have d7:=aA hb1 c7 (by omega)
 have dS:=aA hb1 cS (by omega)
 have hB1:Below w.heap.size w w1:=hb.trans (hb1.mono (by omega))
 have hlt1:w.heap.size<w1.heap.size:=by omega
 clear c0 c2 c5 c6 c7 cS hW
 go_wp2_with fail
 have hm:=(Below.refl w1.heap.size w1).alloc (Nat.le_refl _) (.cells #[.int .i64 ents,.slice none 0 0] 38);refine(dZ _ draws _ (HD.out _ (hB1.trans (hm.mono (by omega))))).mono ?_
 rintro e w2 ⟨sa,sc,rfl,hb2,hLV⟩;have hz2:=hb2.size;rw[World.size_alloc]at hz2;have e0:=aA hb2 (aA hm d0 (by omega)) (by simp;omega)
 have e2:=aA hb2 (aA hm d2 (by omega)) (by simp;omega)
 have e5:=aA hb2 (aA hm d5 (by omega)) (by simp;omega)
 have e6:=aA hb2 (aA hm d6 (by omega)) (by simp;omega)
 have e7:=aA hb2 (aA hm d7 (by omega)) (by simp;omega)
 have eS:=aA hb2 (aA hm dS (by omega)) (by simp;omega)
 have m0:w2.cell? ⟨w1.heap.size,0,none⟩=some (.int .i64 ents):=aA hb2 (by simp[go_sem]) (by simp)
 have m1:w2.cell? ⟨w1.heap.size,1,none⟩=some (.slice none 0 0):=aA hb2 (by simp[go_sem]) (by simp)
 have hB2:Below w.heap.size w w2:=hB1.trans ((hm.mono (by omega)).trans (hb2.mono (by simp;omega)))
 have HLV:=aB hLV;rw[World.size_alloc]at HLV;clear d0 d2 d5 d6 d7 dS hLV
 go_wp2_with fail
 refine(jV bl b _ Hbl8.out Hv.out).mono ?_;rintro e wz ⟨za,zc,rfl,hbz,hLZ⟩;have hzz:=hbz.size;have e5:=aA hbz e5 (by omega)
 have e6:=aA hbz e6 (by omega)
 have e7:=aA hbz e7 (by omega)
 have eS:=aA hbz eS (by omega)
 have m0:=aA hbz m0 (by omega)
 have m1:=aA hbz m1 (by omega)
 have hBz:Below w.heap.size w wz:=hB2.trans (hbz.mono (by omega))
 have HLVz:=aB (HLV.out.below hbz);have HLZ:=aB hLZ;clear e0 e2 hLZ
 go_wp2_with fail
 have HN:=kT (B:=0) ents (.slice none 0 0) (.slice sa draws.length sc) [] (wz.alloc (.cells #[.int .i64 ents,.slice none 0 0] 38)) (hkn _ _) (0,0) (iL ents);rw[World.size_alloc]at HN;refine(sI _ _ _ (.slice za bl.length zc) wz 2 (by decide) HN).mono ?_
 rintro e w3 ⟨rfl,hb3⟩;have hz3:=hb3.size;have f5:=aA hb3 e5 (by omega)
 have f6:=aA hb3 e6 (by omega)
 have f7:=aA hb3 e7 (by omega)
 have fS:=aA hb3 eS (by omega)
 have n0:=aA hb3 m0 (by omega)
 have n1:=aA hb3 m1 (by omega)
 have hB3:Below w.heap.size w w3:=hBz.trans (hb3.mono (by omega))
 clear e5 e6 e7 eS m0 m1 HN
 go_wp2_with fail
 have HN:=lA ents (.slice none 0 0) (.slice la draws.length lc) [] (w3.alloc (.cells #[.int .i64 ents,.slice none 0 0] 38)) (hkn _ _) (0,0) (iL ents);rw[World.size_alloc]at HN;refine(sJ _ _ _ (aH bl) w3 2 (by decide) HN).mono ?_
 rintro e w4 ⟨rfl,hb4⟩;have hz4:=hb4.size;have g5:=aA hb4 f5 (by omega)
 have g6:=aA hb4 f6 (by omega)
 have g7:=aA hb4 f7 (by omega)
 have gS:=aA hb4 fS (by omega)
 have p0:=aA hb4 n0 (by omega)
 have p1:=aA hb4 n1 (by omega)
 have hB4:Below w.heap.size w w4:=hB3.trans (hb4.mono (by omega))
 clear f5 f6 f7 fS n0 n1 HN
 go_wp2_with fail
 refine(iR ents _ _ _).mono ?_;rintro e w5 ⟨rfl,hb5⟩;have hz5:=hb5.size;have q7:=aA hb5 g7 (by omega)
 have qS:=aA hb5 gS (by omega)
 have hB5:Below w.heap.size w w5:=hB4.trans (hb5.mono (by omega))
 have HLV5:=aB (((HLVz.out.below hb3).below hb4).below hb5);have HLZ5:=aB (((HLZ.out.below hb3).below hb4).below hb5);clear g5 g6 g7 gS p0 p1
 go_wp2_with fail
 refine(eI (w1.heap.size+1) w2.heap.size _ draws sa sc _ ((HD.out _ hB5).mono (by omega)) HLV5.out (by
  intro g hg;rcases HLV.out with⟨_,h0,_⟩|⟨g',h1,_,_,_,h5,_⟩
  ·rw[h0]at hg;cases hg
  ·rw[h1]at hg;simp at hg;omega)).mono ?_
 rintro e w6 ⟨rfl,ho6⟩;have hB6:Below w.heap.size w w6:=hB5.trans (ho6.below (by omega) (by intro k hk hs;omega))
 have qS:=ho6.at qS (fun hs=>by omega)
 have HLZ6:=aB (HLZ5.out.only ho6 (by intro k hk hs;omega))
 have hz6:=ho6.size;clear ho6 q7
 go_wp2_with fail
 refine(gB w2.heap.size wz.heap.size bl za zc _ Hbl8.out Hv.out HLZ6.out (by
  intro g hg;rcases HLZ.out with⟨h0,_⟩|⟨g',h1,_,_,h5,_⟩
  ·rw[h0]at hg;cases hg
  ·rw[h1]at hg;simp at hg;omega)).mono ?_
 rintro e w7 ⟨rfl,ho7⟩;have hB7:Below w.heap.size w w7:=hB6.trans (ho7.below (by omega) (by intro k hk hs;omega))
 clear ho7 qS
 go_wp2_with fail
 refine(lZ wb _).mono ?_;rintro e w8 ⟨rfl,rfl⟩
 go_wp2
 go_ret;exact⟨by simp,hB7.mono hbl,lv,ps,by omega,h.below hB7⟩
theorem aDv{ents:Int}{ks:List (List Ins)}{draws:List Int}{s:KS}(hk:bE ents ks=none)(hD:cO draws=true)(hf:Fit ents ks draws s)(hz:nB ents s):jU ents ks draws (dL ents ks.length s)=0∧nP ents ks draws (dL ents ks.length s)=s:=by
 obtain⟨E,rfl,he,hk1,hk8⟩:=lY hk;have hb:=rW E ks draws s hk8 hf hz he (dW hD);have ho:aK (dL (E:Int) ks.length s)=fL (E:Int) ks.length s:=oK [84,77,80,1] _ rfl;have hE:aU [84,77,80,1] (dL (E:Int) ks.length s)=0:=yJ [84,77,80,1] _ rfl;constructor
 ·simp[jU,hk,hD,jH,hE,oP,ho,hb]
 ·simp[nP,ho,hb]
theorem Inv.oneF{base:Nat}{w w2:World}{wb:Nat}{lv lv2:Value}{ps:List Pair}{bk:BookD}{p:Pair}(h:Inv base w wb lv ps bk)(hp:PairOK w p)(hm:∀ b,p.own b→base≤b∧b≠wb∧some b≠lv.ownBlock∧¬bk.bs b∧∀ q∈ps,¬q.own b)
  (W:World) (hW:Below w.heap.size w W) (hg:W.grownBy w2 lv.ownBlock) (hown:w2.ownsRow base 52 2 lv2 (ps.length+1) (cG ps++cC p)) (hwh:lv2.ownBlock=lv.ownBlock∨lv2.ownBlock=some W.heap.size) :
  Inv base (w2.setCell ⟨wb,0,none⟩ lv2) wb lv2 (ps++[p]) bk:=by
 have hz1:=hW.size;have hz2:=hg.size;have hwb:=h.wlt;have hblo:=h.blo;have hlt:∀ b,lv.ownBlock=some b→b<w.heap.size:=fun b hb=>(h.owns.lt b hb).2;have ho:Only (fun b=>some b=lv.ownBlock) w w2:=(Only.new hW).trans ⟨hg.os,hg.tape,hg.output,hg.size,fun k hk hn=>hg.block k hk hn⟩;have hs:Only (·=wb) w2 (w2.setCell ⟨wb,0,none⟩ lv2):=Only.setCell (S:=(·=wb)) (Only.refl _ _) rfl _
 have hsz:(w2.setCell ⟨wb,0,none⟩ lv2).heap.size=w2.heap.size:=by simp[World.setCell]
 have hwl:¬some wb=lv.ownBlock:=fun e=>h.lne e.symm;have hw2:∀ b,b<w.heap.size→some b≠lv.ownBlock→some b≠lv2.ownBlock:=by
  intro b hb1 hb2;rcases hwh with e|e<;>rw[e]
  ·exact hb2
  ·intro e';have:=Option.some.inj e';omega
 have hcell:∀ i v,i≠0→w.cell? ⟨wb,i,none⟩=some v→(w2.setCell ⟨wb,0,none⟩ lv2).cell? ⟨wb,i,none⟩=some v:=by
  intro i v hi hv;rw[World.cell?_setCell_other _ _ _ _ (by simp;try omega)];exact ho.at hv hwl
 have hroom:Room w2 wb 4:=h.room.only ho hwl;refine⟨World.cell?_setCell_same' _ _ _ (hroom 0 (by omega)).1,⟨hcell 1 _ (by omega) h.book.1,hcell 2 _ (by omega) h.book.2.1,hcell 3 _ (by omega) h.book.2.2⟩,hroom.setCell _ _,?_,fun e=>hw2 wb hwb hwl e.symm,h.blo,?_,?_,?_,?_,?_,h.bst⟩
 ·rw[List.length_append,show cG (ps++[p])=cG ps++cC p by simp[cG]]
  obtain⟨h1,h2⟩:=hown;refine⟨h1,?_⟩;rcases h2 with h2|⟨g,cap,cur,hv,hg',hh,r⟩
  ·exact .inl h2
  ·refine .inr ⟨g,cap,cur,hv,hg',?_,r⟩;rw[Below.heap_setCell _ _ _ _ ?_];exact hh;have:=hw2 wb hwb hwl;rw[hv]at this;simp[Value.ownBlock]at this;exact Ne.symm this
 ·intro x hx;rcases List.mem_append.1 hx with h1|h1
  ·exact((h.pairs x h1).only ho (fun b hb=>(h.muts x h1 b hb).2.2.1)).only hs (fun b hb=>(h.muts x h1 b hb).2.1)
  ·simp at h1;subst h1;exact(hp.only ho (fun b hb=>(hm b hb).2.2.1)).only hs (fun b hb=>(hm b hb).2.1)
 ·intro x hx b hb;rcases List.mem_append.1 hx with h1|h1
  ·have:=h.muts x h1 b hb;exact⟨this.1,this.2.1,hw2 b ((h.pairs x h1).lt b hb) this.2.2.1,this.2.2.2⟩
  ·simp at h1;subst h1;obtain⟨m1,m2,m3,m4,_⟩:=hm b hb;exact⟨m1,m2,hw2 b (hp.lt b hb) m3,m4⟩
 ·intro i j x y b hi hj hx hy;have look:∀ (i:Nat) s,(ps++[p])[i]?=some s→(i<ps.length∧ps[i]?=some s)∨(i=ps.length∧s=p):=by
   intro i s hs
   by_cases hi:i<ps.length
   ·rw[List.getElem?_append_left hi]at hs;exact .inl ⟨hi,hs⟩
   ·rw[List.getElem?_append_right (by omega)]at hs
    have:i-ps.length=0:=by
     have:=(List.getElem?_eq_some_iff.1 hs).1;simp at this;omega
    rw[this]at hs;simp at hs;exact .inr ⟨by omega,hs.symm⟩
  rcases look i x hi with⟨i1,i2⟩|⟨i1,rfl⟩<;>rcases look j y hj with⟨j1,j2⟩|⟨j1,rfl⟩
  ·exact h.apart i j x y b i2 j2 hx hy
  ·exact absurd hx ((hm b hy).2.2.2.2 x (List.mem_of_getElem? i2))
  ·exact absurd hy ((hm b hx).2.2.2.2 y (List.mem_of_getElem? j2))
  ·omega
 ·intro b hb;rw[hsz];have:=h.bks b hb;exact⟨this.1,by omega,this.2.2.1,hw2 b this.2.1 this.2.2.2⟩
 ·refine h.bst _ _ (·=wb) (h.bst _ _ _ h.bok ho (fun b hb=>(h.bks b hb).2.2.2)) hs (fun b hb=>(h.bks b hb).2.2.1)
theorem aFf{base:Nat}(wb:Nat)(lv:Value)(ps:List Pair)(p:Pair)(bk:BookD)(w:World)(h:Inv base w wb lv ps bk)
  (hp:PairOK w p) (hm:∀ b,p.own b→base≤b∧b≠wb∧some b≠lv.ownBlock∧¬bk.bs b∧∀ q∈ps,¬q.own b) (hlen:(ps.length+1)*16≤140737488355328) (hbase:base≤w.heap.size) :
  Calls Tryz.prog 29 #[.pointer (some ⟨wb,0,none⟩),.pointer (some ⟨p.kb,0,none⟩),.pointer (some ⟨p.rb,0,none⟩)] w fun e w'=>e=.returned (.bool true)∧Below base w w'∧Only (fun b=>b=wb∨some b=lv.ownBlock) w w'∧∃ lv',Inv base w' wb lv' (ps++[p]) bk:=by
 have hw0:=h.wlt;have hc0:=h.cell;have hown:=h.owns;have Hown:=aB hown;clear hown;obtain⟨la,lc,rfl⟩:=bF h.owns;have hf0:=(h.room 0 (by omega)).2
 go_enter Tryz.func29,Tryz.ntmps29
 go_wp2_with (at_builtin;refine aD rfl (.tmp 18) (.tmp 22) 28 rfl base 52 (.agg #[.pointer none,.pointer none]) 2 16 Tryz.underlying28 Tryz.info52 rfl (by omega) _ ps.length (cG ps) rfl (Hown.out.alloc _) _ 1 (cC p) rfl (.inr (.inl ⟨w.heap.size,0,_,rfl,?_⟩)) rfl (by simp[cC,Value.oneCell']) (by omega) (by omega) (by simp;omega) ?_)
 ·intro j u hu;have hj:j<2:=by have:=(List.getElem?_eq_some_iff.1 hu).1;simpa [cC]using this
  have:j=0∨j=1:=by omega
  rcases this with rfl|rfl<;>simp[cC]at hu<;>subst hu<;>simp[go_sem]
 intro v2 w2 hown2 hgr2 hwh2;obtain⟨sa2,sc2,rfl⟩:=bF hown2.out;have hW:=(Below.refl w.heap.size w).alloc (Nat.le_refl _) (.cells #[.pointer (some ⟨p.kb,0,none⟩),.pointer (some ⟨p.rb,0,none⟩)] 52);have hI:=h.oneF hp hm _ hW hgr2.out hown2.out (by simpa using hwh2.out)
 have ho2:=(kP hgr2.out);have hwl:¬some wb=(Value.slice la ps.length lc).ownBlock:=fun e=>h.lne e.symm;have hc2:w2.cell? ⟨wb,0,none⟩=some (.slice la ps.length lc):=ho2.at (aA hW hc0 (by omega)) hwl
 have hf2:w2.frozen? ⟨wb,0,none⟩=false:=by
  rw[World.frozen?_of_block (w:=w.alloc (.cells #[.pointer (some ⟨p.kb,0,none⟩),.pointer (some ⟨p.rb,0,none⟩)] 52)) (a:=⟨wb,0,none⟩) (ho2.block wb (by simp;omega) hwl)]
  exact(hW.frozen (p:=⟨wb,0,none⟩) (by show wb<_;omega)).trans hf0
 have hbb:Below base w w2:=(hW.mono (by omega)).grown hgr2.out (by simp;omega) (fun b hb=>(h.owns.lt b hb).1)
 have HI:=aB hI;have hblo:=h.blo;have HO:Hid (Only (fun b=>b=wb∨some b=(Value.slice la ps.length lc).ownBlock) w w2):=(Only.new hW).trans (ho2.mono (fun b _ hb=>.inr hb));clear hI hc0 hf0
 go_wp2
 go_ret;exact⟨rfl,hbb.setCell (by exact hblo) _,HO.out.setCell (.inl rfl) _,_,HI.out⟩
end Go.Proofs.YtndlmgocldckfaaGreat
