import Derived.Test.YtndlmgocldckfaaGreatG26
import Derived.Test.YtndlmgocldckfaaGreatG21
import Derived.Test.YtndlmgocldckfaaGreatG19
import Derived.Test.YtndlmgocldckfaaGreatG20
import Derived.Test.YtndlmgocldckfaaGreatG25
import Derived.Test.YtndlmgocldckfaaGreatG08
namespace Go.Proofs.YtndlmgocldckfaaGreat
open Go.RowKit
set_option linter.unusedVariables false
set_option linter.unusedSimpArgs false
set_option maxRecDepth 100000
set_option maxHeartbeats 4000000
theorem rC{base:Nat}(wb:Nat)(lv:Value)(ps:List Pair)(bk:BookD)(a b c d ents:Int)(kv l rv qv sv:Value)(rs qs:List Rec)(w:World)(h:Inv base w wb lv ps bk)(hr:RecsX base w rv rs)(hq:RecsX base w qv qs)(hb0:0<base) :
  Calls Tryz.prog 16 #[.pointer (some ⟨wb,0,none⟩),.agg #[.int .i64 12,.int .i64 a,.int .i64 b,.int .i64 c,.int .i64 d,.int .i64 ents,kv,l,rv,qv,sv]] w
   fun e w'=>e=.returned (.bool true)∧Below w.heap.size w w':=by
 have hbl:=h.lo;obtain⟨W,hW⟩:∃ W,W=w.alloc (.cells #[.int .i64 12,.int .i64 a,.int .i64 b,.int .i64 c,.int .i64 d,.int .i64 ents,kv,l,rv,qv,sv] 41):=⟨_,rfl⟩;have hb:Below w.heap.size w W:=by rw[hW];exact(Below.refl _ _).alloc (Nat.le_refl _) _
 have hWs:W.heap.size=w.heap.size+1:=by rw[hW];simp
 have hop:OpAt W w.heap.size 12 b rv qv sv:=by rw[hW];exact OpAt.new _ _ _ _ _ _ _ _ _ _ _ _ _
 obtain⟨ra,rc,rfl,_⟩:=hr.recIn;obtain⟨qa,qc,rfl,_⟩:=hq.recIn;have HR:Hid (∀ W',Below w.heap.size w W'→RecsX base W' (.slice ra rs.length rc) rs):=fun W' hb'=>hr.below (hb'.mono hbl);have HQ:Hid (∀ W',Below w.heap.size w W'→RecsX base W' (.slice qa qs.length qc) qs):=fun W' hb'=>hq.below (hb'.mono hbl);have Hl1:Hid (rs.length≤1000000000000000∧qs.length≤1000000000000000∧∀ r∈rs,r.told.length≤1000000000000000):=⟨by have:=hr.1;omega,by have:=hq.1;omega,fun r hm=>by have:=hr.toldLen r hm;omega⟩
 have c0:=hop.c0;have c8:=hop.c8;have HW:=aB hW;have HO:=aB hop;have HL:=aB (hY _ rs W (HR.out W hb) (by omega) hb0)
 have HB:=aB hb;clear hr hq hop hW hb
 go_enter Tryz.func16,Tryz.ntmps16
 go_wp2_with fail
 rw[←HW.out]
 go_wp2_with fail
 refine HL.out.mono ?_;rintro e w1 ⟨sa,sc,ma,mn,mc,rfl,hb1,hQ1⟩;have hz1:=hb1.size;have HB1:Hid (Below w.heap.size w w1):=HB.out.trans (hb1.mono (by omega))
 have HO1:=aB (HO.out.below hb1 (by omega))
 have c0:=HO1.out.c0;have c9:=HO1.out.c9;have HQ1:=aB hQ1;have HL2:=aB (hY _ qs w1 (HQ.out w1 HB1.out) (by omega) hb0)
 clear hQ1 hb1 HL c8 HO
 go_wp2_with fail
 refine HL2.out.mono ?_;rintro e w2 ⟨ta,tc,na,nn,nc,rfl,hb2,hQ2⟩;have hz2:=hb2.size;have HB2:Hid (Below w.heap.size w w2):=HB1.out.trans (hb2.mono (by omega))
 have HO2:=aB (HO1.out.below hb2 (by omega))
 have c8:=HO2.out.c8;have c9:=HO2.out.c9;have HQ12:=aB (HQ1.out.below hb2);have HQ2:=aB hQ2;obtain⟨_,_,e1,hi1⟩:=HQ12.out.recIn;obtain⟨_,_,e2,hi2⟩:=HQ2.out.recIn;cases e1;cases e2;have HC:=aB (yY sa ta sc tc rs qs w2 hi1 hi2 Hl1.out.1 Hl1.out.2.1 Hl1.out.2.2);clear hQ2 hb2 HL2 hi1 hi2 HQ1 HO1 c0
 go_wp2_with fail
 refine HC.out.mono ?_;rintro e w3 ⟨rfl,hb3⟩;have hz3:=hb3.size;have HB3:Hid (Below w.heap.size w w3):=HB2.out.trans (hb3.mono (by omega))
 have HO3:=aB (HO2.out.below hb3 (by omega))
 have c8:=HO3.out.c8;have c9:=HO3.out.c9;have HQ13:=aB (HQ12.out.below hb3);have HQ23:=aB (HQ2.out.below hb3);have HC2:Hid (∀ W',Below w3.heap.size w3 W'→Calls Tryz.prog 43 #[.slice ra rs.length rc,.slice qa qs.length qc] W' fun e w'=>e=.returned (.int .i64 (iH 0 rs qs))∧Below W'.heap.size W' w'):=by
  intro W' hb';have hb4:=HB3.out.trans (hb'.mono (by omega))
  obtain⟨_,_,e1,hi1⟩:=(HR.out W' hb4).recIn;obtain⟨_,_,e2,hi2⟩:=(HQ.out W' hb4).recIn;cases e1;cases e2;exact xK ra qa rc qc rs qs W' hi1 hi2 Hl1.out.1 Hl1.out.2.1 Hl1.out.2.2
 clear hb3 HC HQ12 HQ2 HO2
 go_wp2_with fail
 refine(HC2.out w3 (Below.refl _ _)).mono ?_;rintro e w4 ⟨rfl,hb4⟩;have hz4:=hb4.size;have HB4:Hid (Below w.heap.size w w4):=HB3.out.trans (hb4.mono (by omega))
 have HO4:=aB (HO3.out.below hb4 (by omega))
 have c8:=HO4.out.c8;have HQ14:=aB (HQ13.out.below hb4);have HQ24:=aB (HQ23.out.below hb4);have HX:=aB (fA _ _ _ rs w4 HQ14.out);generalize iH 0 rs qs=z;clear hb4 HC2 HQ13 HQ23 HO3 c9
 go_wp2_with fail
 refine HX.out.mono ?_;rintro e w5 ⟨rfl,ho5⟩;have hz5:=ho5.size;have HB5:Hid (Below w.heap.size w w5):=HB4.out.trans (ho5.below (by omega) (fun k hk hc=>by omega))
 have c9:w5.cell? ⟨w.heap.size,9,none⟩=some (.slice qa qs.length qc):=ho5.at HO4.out.c9 (by omega)
 have HQ25:=aB (HQ24.out.only ho5 (fun y hy=>by omega))
 have HX2:=aB (fA _ _ _ qs w5 HQ25.out);clear ho5 HX HQ14 HQ24 HO4 c8
 go_wp2_with fail
 refine HX2.out.mono ?_;rintro e w6 ⟨rfl,ho6⟩;have HB6:Hid (Below w.heap.size w w6):=HB5.out.trans (ho6.below (by omega) (fun k hk hc=>by omega))
 have dz:(z==z)=true:=by simp
 clear ho6 HX2
 go_wp2_with fail
 go_ret;exact⟨by simp,HB6.out⟩
def eQ:List (List Ins):=[[⟨2,0,1,0⟩,⟨8,0,0,0⟩,⟨6,0,0,2⟩],[⟨1,1,5,0⟩,⟨4,2,4,0⟩,⟨6,0,0,2⟩,⟨5,3,1,0⟩,⟨7,3,0,0⟩,⟨6,0,0,1⟩]]
theorem fV(W:World)(cs:List Value)(T:TypeId):RowAt (W.alloc (.cells cs.toArray T)) W.heap.size 0 cs:=by
 intro j v hv;rw[Nat.zero_add,World.cell?_alloc_at _ _ _ _ rfl]
 simpa using hv
theorem aA7(W:World)(T1 T2:TypeId):KindsIn (fun b=>W.heap.size≤b∧b<W.heap.size+3) (((W.alloc (.cells (aO eQ[0]).toArray T1)).alloc (.cells (aO eQ[1]).toArray T1)).alloc (.cells #[.slice (some ⟨W.heap.size,0,none⟩) 3 3,.slice (some ⟨W.heap.size+1,0,none⟩) 6 6] T2)) (.slice (some ⟨W.heap.size+1+1,0,none⟩) 2 2) eQ:=by
 obtain⟨W1,hW1⟩:∃ W1,W1=W.alloc (.cells (aO eQ[0]).toArray T1):=⟨_,rfl⟩;obtain⟨W2,hW2⟩:∃ W2,W2=W1.alloc (.cells (aO eQ[1]).toArray T1):=⟨_,rfl⟩;obtain⟨W3,hW3⟩:∃ W3,W3=W2.alloc (.cells #[.slice (some ⟨W.heap.size,0,none⟩) 3 3,.slice (some ⟨W.heap.size+1,0,none⟩) 6 6] T2):=⟨_,rfl⟩;have s1:W1.heap.size=W.heap.size+1:=by rw[hW1];simp
 have s2:W2.heap.size=W.heap.size+1+1:=by rw[hW2];simp[s1]
 have b2:Below W1.heap.size W1 W2:=by rw[hW2];exact(Below.refl _ _).alloc (Nat.le_refl _) _
 have b3:Below W2.heap.size W2 W3:=by rw[hW3];exact(Below.refl _ _).alloc (Nat.le_refl _) _
 have r0:CodeAt W3 W.heap.size 0 eQ[0]:=by
  have:=fV W (aO eQ[0]) T1;rw[←hW1]at this;exact(this.code.below b2 (by omega)).below b3 (by omega)
 have r1:CodeAt W3 (W.heap.size+1) 0 eQ[1]:=by
  have:=fV W1 (aO eQ[1]) T1;rw[←hW2,s1]at this;exact this.code.below b3 (by omega)
 have rk:=fV W2 [.slice (some ⟨W.heap.size,0,none⟩) 3 3,.slice (some ⟨W.heap.size+1,0,none⟩) 6 6] T2;rw[s2]at rk;rw[←hW1,←hW2,←hW3];refine⟨by decide,.inr ⟨W.heap.size+1+1,0,2,rfl,by omega,?_⟩⟩
 intro i l hl;have hi:i<2:=by simpa [eQ]using (List.getElem?_eq_some_iff.1 hl).1
 have:i=0∨i=1:=by omega
 rcases this with rfl|rfl
 ·have:l=eQ[0]:=by simpa [eQ]using hl.symm
  subst this;exact⟨.slice (some ⟨W.heap.size,0,none⟩) 3 3,by rw[hW3];exact rk 0 _ rfl,by simp[eQ],.inr ⟨W.heap.size,0,3,rfl,by omega,r0⟩⟩
 ·have:l=eQ[1]:=by simpa [eQ]using hl.symm
  subst this;exact⟨.slice (some ⟨W.heap.size+1,0,none⟩) 6 6,by rw[hW3];exact rk 1 _ rfl,by simp[eQ],.inr ⟨W.heap.size+1,0,6,rfl,by omega,r1⟩⟩
theorem aB7(w:World):Calls Tryz.prog 14 #[] w fun e w'=>∃ sa sc,e=.returned (.agg #[.int .i64 2,.slice sa 2 sc])∧Below w.heap.size w w'∧KindsIn (fun b=>w.heap.size≤b∧b<w'.heap.size) w' (.slice sa 2 sc) eQ:=by
 go_enter Tryz.func14,Tryz.ntmps14
 go_wp2
 obtain⟨W,hW⟩:∃ W,W=w.alloc (.cells #[.int .i64 2,.slice (some ⟨w.heap.size+1+1+1,0,none⟩) 2 2] 38):=⟨_,rfl⟩;have hWs:W.heap.size=w.heap.size+1:=by rw[hW];simp
 have hk:=aA7 W 59 60;have e0:(aO eQ[0]).toArray=#[.int .i64 2,.int .i64 0,.int .i64 1,.int .i64 0,.int .i64 8,.int .i64 0,.int .i64 0,.int .i64 0,.int .i64 6,.int .i64 0,.int .i64 0,.int .i64 2]:=rfl;have e1:(aO eQ[1]).toArray=#[.int .i64 1,.int .i64 1,.int .i64 5,.int .i64 0,.int .i64 4,.int .i64 2,.int .i64 4,.int .i64 0,.int .i64 6,.int .i64 0,.int .i64 0,.int .i64 2,.int .i64 5,.int .i64 3,.int .i64 1,.int .i64 0,.int .i64 7,.int .i64 3,.int .i64 0,.int .i64 0,.int .i64 6,.int .i64 0,.int .i64 0,.int .i64 1]:=rfl;rw[e0,e1,hWs]at hk;rw[←hW];refine bodyPost_ret (v:=.agg #[.int .i64 2,.slice (some ⟨w.heap.size+1+1+1,0,none⟩) 2 2]) (by rw[hW];simp[results,Tryz.results14,go_sem]) rfl ⟨_,_,rfl,?_,hk.mono ?_⟩
 ·have hb0:Below w.heap.size w W:=by rw[hW];exact(Below.refl _ _).alloc (Nat.le_refl _) _
  exact((hb0.alloc (by omega) _).alloc (by simp;omega) _).alloc (by simp;omega) _
 ·intro b hb;simp[hWs];omega
def kW(kind a b c d ents:Int)(kv l rv qv sv:Value)(ks:List (List Ins))(draws:List Int):OpD:=⟨kind,a,b,c,d,ents,kv,l,rv,qv,sv,ks,draws⟩
def noS:Value:=.slice none 0 0
def noT:Value:=.string ⟨#[]⟩
def eR(k1 k2 dv r:Value):List OpD:=
 [kW 1 0 0 0 0 2 k1 noS noS noS noT eQ [],kW 2 0 0 0 0 2 k2 dv noS noS noT eQ [7,9],kW 3 0 10 1 0 0 noS noS noS noS noT [] [],kW 4 0 3 100 0 0 noS noS noS noS noT [] [],kW 5 0 0 0 0 0 noS noS noS noS noT [] [],
  kW 6 0 0 2 0 0 noS noS noS noS noT [] [],kW 7 0 0 0 0 0 noS noS noS noS noT [] [],kW 9 0 0 0 0 0 noS noS noS noS noT [] [],kW 10 0 0 0 0 0 noS noS r noS noT [] [],kW 11 0 0 0 0 0 noS noS noS noS (.string ⟨#[84,77,82,1,0]⟩) [] [],
  kW 12 0 0 0 0 0 noS noS r noS noT [] []]
def bP(os:List OpD):List Value:=os.flatMap dJ
theorem aA8(os:List OpD)(h:∀ o∈os,o.kv.oneCell'=true∧o.l.oneCell'=true∧o.rv.oneCell'=true∧o.qv.oneCell'=true∧o.sv.oneCell'=true):∀ u∈bP os,u.oneCell'=true:=by
 intro u hu;obtain⟨o,ho,hu⟩:=List.mem_flatMap.1 hu;obtain⟨h1,h2,h3,h4,h5⟩:=h o ho;simp only[dJ,List.mem_cons,List.not_mem_nil,or_false]at hu;rcases hu with rfl|rfl|rfl|rfl|rfl|rfl|rfl|rfl|rfl|rfl|rfl
 ·rfl
 ·rfl
 ·rfl
 ·rfl
 ·rfl
 ·rfl
 ·exact h1
 ·exact h2
 ·exact h3
 ·exact h4
 ·exact h5
theorem aFd(B:Nat)(W:World):KindsV B W noS []:=⟨by simp,.inl ⟨rfl,rfl⟩⟩
theorem aFe(B:Nat)(W:World):IntsX B W noS []:=.inl ⟨by simp,.inl ⟨rfl,rfl⟩⟩
theorem aDu{w1 w2:World}{lo1 lo2:Nat}{k1 k2 r:Value}(hr:∃ a n c,r=.slice a n c)(hz2:w1.heap.size≤w2.heap.size)(hk1:KindsIn (fun b=>lo1≤b∧b<w1.heap.size) w2 k1 eQ)(hk2:KindsIn (fun b=>lo2≤b∧b<w2.heap.size) w2 k2 eQ)(o:Obj) :
  ∀ x∈eR k1 k2 (.slice (some ⟨w2.heap.size,0,none⟩) 2 2) r,OpOK (w2.heap.size+1) ((w2.alloc (.cells #[.int .i64 7,.int .i64 9] 3)).alloc o) x:=by
 have hb:=(Below.refl w2.heap.size w2).alloc (Nat.le_refl _) (.cells #[.int .i64 7,.int .i64 9] 3);have hb':=(Below.refl (w2.heap.size+1) (w2.alloc (.cells #[.int .i64 7,.int .i64 9] 3))).alloc (by simp) o
 have hbb:=hb.trans (hb'.mono (by omega))
 have n:=aFd (w2.heap.size+1) ((w2.alloc (.cells #[.int .i64 7,.int .i64 9] 3)).alloc o);have m:=aFe (w2.heap.size+1) ((w2.alloc (.cells #[.int .i64 7,.int .i64 9] 3)).alloc o);have a1:=(hk1.only (Only.new (S:=fun _=>False) hbb) (by simp)).toV (B:=w2.heap.size+1) (by intro b hb;omega)
 have a2:=(hk2.only (Only.new (S:=fun _=>False) hbb) (by simp)).toV (B:=w2.heap.size+1) (by intro b hb;omega)
 have d2:IntsX (w2.heap.size+1) ((w2.alloc (.cells #[.int .i64 7,.int .i64 9] 3)).alloc o) (.slice (some ⟨w2.heap.size,0,none⟩) 2 2) [7,9]:=by
  refine .inl ⟨by simp,.inr ⟨w2.heap.size,0,2,rfl,by omega,?_⟩⟩
  exact(fV w2 [.int .i64 7,.int .i64 9] 3).below hb' (by omega)
 intro x hx;simp only[eR,List.mem_cons,List.not_mem_nil,or_false]at hx;rcases hx with rfl|rfl|rfl|rfl|rfl|rfl|rfl|rfl|rfl|rfl|rfl
 ·exact⟨a1,m,by simp[kW],by simp[kW],⟨_,_,_,rfl⟩,⟨_,_,_,rfl⟩,⟨_,rfl⟩⟩
 ·exact⟨a2,d2,by simp[kW],by simp[kW],⟨_,_,_,rfl⟩,⟨_,_,_,rfl⟩,⟨_,rfl⟩⟩
 all_goals first|exact⟨n,m,by simp[kW],by simp[kW],⟨_,_,_,rfl⟩,⟨_,_,_,rfl⟩,⟨_,rfl⟩⟩|exact⟨n,m,by simp[kW],by simp[kW],hr,⟨_,_,_,rfl⟩,⟨_,rfl⟩⟩
def FirstR(g:Nat)(w:World)(r:Value):Prop:=
 ∃ rb tb,r=.slice (some ⟨rb,0,none⟩) 1 1∧rb<g∧tb<g∧RowAt w rb 0 [.int .i64 1,.int .i64 10,.int .i64 1,.int .i64 0,.slice (some ⟨tb,0,none⟩) 1 1]∧RowAt w tb 0 [.int .i64 (-3)]
theorem aC7(w:World):FirstR (w.heap.size+1+1) ((w.alloc (.cells #[.int .i64 (-3)] 3)).alloc (.cells #[.int .i64 1,.int .i64 10,.int .i64 1,.int .i64 0,.slice (some ⟨w.heap.size,0,none⟩) 1 1] 46)) (.slice (some ⟨w.heap.size+1,0,none⟩) 1 1):=by
 have h1:=fV w [.int .i64 (-3)] 3;have h2:=fV (w.alloc (.cells #[.int .i64 (-3)] 3)) [.int .i64 1,.int .i64 10,.int .i64 1,.int .i64 0,.slice (some ⟨w.heap.size,0,none⟩) 1 1] 46;rw[World.size_alloc]at h2;have hb:=(Below.refl (w.heap.size+1) (w.alloc (.cells #[.int .i64 (-3)] 3))).alloc (by simp) (.cells #[.int .i64 1,.int .i64 10,.int .i64 1,.int .i64 0,.slice (some ⟨w.heap.size,0,none⟩) 1 1] 46)
 exact⟨_,_,rfl,by omega,by omega,h2,h1.below hb (by omega)⟩
theorem FirstR.below{g:Nat}{w w':World}{r:Value}(h:FirstR g w r)(hb:Below g w w'):FirstR g w' r:=by
 obtain⟨rb,tb,rfl,h1,h2,h3,h4⟩:=h;exact⟨rb,tb,rfl,h1,h2,h3.below hb h1,h4.below hb h2⟩
theorem FirstR.mono{g g':Nat}{w:World}{r:Value}(h:FirstR g w r)(hg:g≤g'):FirstR g' w r:=by
 obtain⟨rb,tb,rfl,h1,h2,h3,h4⟩:=h;exact⟨rb,tb,rfl,by omega,by omega,h3,h4⟩
theorem aC8(w:World):Calls Tryz.prog 9 #[] w fun e w'=>∃ g os,e=.returned (.slice (some ⟨g,0,none⟩) 11 11)∧Below w.heap.size w w'∧w.heap.size≤g∧os.length=11 ∧
  (∃ cur,w'.heap[g]?=some (.cells cur 41 (0,0))∧cur.toList=bP os)∧g<w'.heap.size∧(∀ o∈os,OpOK g w' o)∧(∀ u∈bP os,u.oneCell'=true)∧∃ k1 k2 dv r,os=eR k1 k2 dv r∧FirstR g w' r:=by
 have HF:=aB (aC7 w)
 go_enter Tryz.func9,Tryz.ntmps9
 go_wp2_with fail
 refine(aB7 _).mono ?_;rintro e w1 ⟨sa1,sc1,rfl,hb1,hk1⟩
 go_wp2_with fail
 refine(aB7 _).mono ?_;rintro e w2 ⟨sa2,sc2,rfl,hb2,hk2⟩;have hz1:=hb1.size;have hz2:=hb2.size;simp only[World.size_alloc]at hz1;have hB:Below w.heap.size w w2:=((((Below.refl w.heap.size w).alloc (Nat.le_refl _) (.cells #[.int .i64 (-3)] 3)).alloc (by simp) (.cells #[.int .i64 1,.int .i64 10,.int .i64 1,.int .i64 0,.slice (some ⟨w.heap.size,0,none⟩) 1 1] 46)).trans (hb1.mono (by simp;omega))).trans (hb2.mono (by omega))
 have HB:=aB hB;have HF2:Hid (FirstR (w.heap.size+1+1) w2 (.slice (some ⟨w.heap.size+1,0,none⟩) 1 1)):=(HF.out.below (hb1.mono (by simp))).below (hb2.mono (by omega))
 have Hk1:=aB (KindsIn.only hk1 (Only.new (S:=fun _=>False) hb2) (by simp))
 have Hk2:=aB hk2;clear hk1 hk2 hB hb1
 go_wp2
 go_ret;refine⟨w2.heap.size+1,eR (.slice sa1 2 sc1) (.slice sa2 2 sc2) (.slice (some ⟨w2.heap.size,0,none⟩) 2 2) (.slice (some ⟨w.heap.size+1,0,none⟩) 1 1),by simp,?_,by omega,rfl,⟨_,?_,rfl⟩,by simp,?_,?_,_,_,_,_,rfl,?_⟩
 ·exact(HB.out.alloc (by omega) _).alloc (by simp;omega) _
 ·have:=eD (w2.alloc (.cells #[.int .i64 7,.int .i64 9] 3)) (.cells (bP (eR (.slice sa1 2 sc1) (.slice sa2 2 sc2) (.slice (some ⟨w2.heap.size,0,none⟩) 2 2) (.slice (some ⟨w.heap.size+1,0,none⟩) 1 1))).toArray 41);rw[World.size_alloc]at this;exact this
 ·exact aDu ⟨_,_,_,rfl⟩ hz2 Hk1.out Hk2.out _
 ·refine aA8 _ ?_;intro o ho;simp only[eR,List.mem_cons,List.not_mem_nil,or_false]at ho;rcases ho with rfl|rfl|rfl|rfl|rfl|rfl|rfl|rfl|rfl|rfl|rfl<;>exact⟨rfl,rfl,rfl,rfl,rfl⟩
 ·refine(HF2.out.below ?_).mono (by omega)
  exact((Below.refl _ _).alloc (by omega) _).alloc (by simp;omega) _
theorem Tryz.info41:(Tryz.prog.info? 41).map (fun i=>(i.zero,i.size,i.bytes))=some (some (.agg #[.int .i64 0,.int .i64 0,.int .i64 0,.int .i64 0,.int .i64 0,.int .i64 0,.slice none 0 0,.slice none 0 0,.slice none 0 0,.slice none 0 0,.string ⟨#[]⟩]),11,160):=by kernel_rfl
theorem jW(os:List OpD):(bP os).length=os.length*11:=by
 induction os with
 | nil=>rfl
 | cons x l ih=>simp[bP,dJ]at ih ⊢;omega
theorem nQ:∀ (os:List OpD) (i r:Nat),r<11→(bP os)[i*11+r]?=os[i]?.bind fun x=>(dJ x)[r]?
 | [],i,r,_=>by simp[bP]
 | x::l,0,r,h=>by
  rw[Nat.zero_mul,Nat.zero_add,bP,List.flatMap_cons,List.getElem?_append_left (by simp[dJ];omega)]
  simp
 | x::l,i+1,r,h=>by
  have ih:=nQ l i r h;have e:(i+1)*11+r=(dJ x).length+(i*11+r):=by simp[dJ];omega
  rw[e,bP,List.flatMap_cons,List.getElem?_append_right (by omega)]
  simpa [bP]using ih
theorem aDz{w:World}{g:Nat}{os:List OpD}{i:Nat}{o:OpD}(h:RowAt w g 0 (bP os))(ho:os[i]?=some o) :
  w.cell? ⟨g,i*11,none⟩=some (.int .i64 o.kind)∧w.cell? ⟨g,i*11+1,none⟩=some (.int .i64 o.a)∧w.cell? ⟨g,i*11+2,none⟩=some (.int .i64 o.b)∧w.cell? ⟨g,i*11+3,none⟩=some (.int .i64 o.c)∧w.cell? ⟨g,i*11+4,none⟩=some (.int .i64 o.d)∧w.cell? ⟨g,i*11+5,none⟩=some (.int .i64 o.ents) ∧
  w.cell? ⟨g,i*11+6,none⟩=some o.kv∧w.cell? ⟨g,i*11+7,none⟩=some o.l∧w.cell? ⟨g,i*11+8,none⟩=some o.rv∧w.cell? ⟨g,i*11+9,none⟩=some o.qv∧w.cell? ⟨g,i*11+10,none⟩=some o.sv:=by
 have q:=fun r (hr:r<11) (v:Value) (hv:(dJ o)[r]?=some v)=>h (i*11+r) v (by rw[nQ os i r hr,ho];exact hv)
 simp only[Nat.zero_add]at q;exact⟨q 0 (by omega) _ rfl,q 1 (by omega) _ rfl,q 2 (by omega) _ rfl,q 3 (by omega) _ rfl,q 4 (by omega) _ rfl,q 5 (by omega) _ rfl,q 6 (by omega) _ rfl,q 7 (by omega) _ rfl,q 8 (by omega) _ rfl,q 9 (by omega) _ rfl,q 10 (by omega) _ rfl⟩
theorem OpOK.mono{B B':Nat}{w:World}{o:OpD}(h:OpOK B w o)(hB:B≤B'):OpOK B' w o:=
 ⟨h.kinds.mono hB,h.draws.mono hB,h.alo,h.ahi,h.rform,h.qform,h.sform⟩
structure PlayX(K:Nat→World→OpD→Prop)(pl:List Int)(lim:Nat)(Good:Nat→BookD→Prop):Prop where
 start:∃ bk0,Good 0 bk0∧∀ (w:World) (T:TypeId),Inv w.heap.size (w.alloc (.cells #[.slice none 0 0,.slice none 0 0,.slice none 0 0,.slice none 0 0] T)) w.heap.size (.slice none 0 0) [] bk0
 len:pl.length≤1000
 step:∀ (j base wb:Nat) (lv:Value) (ps:List Pair) (bk:BookD) (o:OpD) (w:World),j<lim→Inv base w wb lv ps bk→Good j bk→OpOK base w o→K base w o→fD pl o.kind=true→(ps.length+1)*16≤140737488355328→0<base →
  Calls Tryz.prog 11 #[.pointer (some ⟨wb,0,none⟩),.agg #[.int .i64 o.kind,.int .i64 o.a,.int .i64 o.b,.int .i64 o.c,.int .i64 o.d,.int .i64 o.ents,o.kv,o.l,o.rv,o.qv,o.sv]] w
   fun e w'=>e=.returned (.bool true)∧Below base w w'∧∃ lv' ps' bk',ps'.length≤ps.length+1∧Inv base w' wb lv' ps' bk'∧Good (j+1) bk'
 looks:∀ (j base wb:Nat) (lv:Value) (ps:List Pair) (bk:BookD) (w:World),j≤lim→Inv base w wb lv ps bk→Good j bk→Calls Tryz.prog 12 #[.pointer (some ⟨wb,1,none⟩)] w fun e w'=>e=.returned (.bool true)∧Below w.heap.size w w'
 apart:∀ (j base wb:Nat) (lv:Value) (ps:List Pair) (bk:BookD) (w:World),j≤lim→Inv base w wb lv ps bk→Good j bk→Calls Tryz.prog 13 #[.pointer (some ⟨wb,1,none⟩)] w fun e w'=>e=.returned (.bool true)∧Below base w w'
 kbelow:∀ (B:Nat) (w w':World) (o:OpD),K B w o→Below B w w'→K B w' o
 kmono:∀ (B B':Nat) (w:World) (o:OpD),K B w o→B≤B'→K B' w o
 kfirst:∀ (B:Nat) (w:World) (k1 k2 dv r:Value),FirstR B w r→∀ o∈eR k1 k2 dv r,K B w o
theorem aCe(K:Nat→World→OpD→Prop)(pl:List Int)(lim:Nat)(Good:Nat→BookD→Prop)(hP:PlayX K pl lim Good)(sv:Value)(os:List OpD)(pb:Nat)(w:World)(hsrc:eO w sv os.length (bP os))(hos:∀ o∈os,OpOK w.heap.size w o)(hks:∀ o∈os,K w.heap.size w o)(hone:∀ u∈bP os,u.oneCell'=true)(hn:(os.length+11)*160≤140737488355328)(hlim:os.length+11≤lim)
  (hpl:RowAt w pb 0 (ints pl)) (hpb:pb<w.heap.size) :
  Calls Tryz.prog 8 #[sv,.slice (some ⟨pb,0,none⟩) pl.length pl.length] w fun e w'=>e=.returned (.bool true)∧Below w.heap.size w w':=by
 have HP:=aB hP;clear hP;have Hos:=aB hos;have Hks:=aB hks;have Hone:=aB hone;clear hos hone hks
 go_enter Tryz.func8,Tryz.ntmps8
 go_wp2_with fail
 refine(aC8 _).mono ?_;rintro e w1 ⟨g,os1,rfl,hb1,hg1,hl1,⟨cur,hcur,hcl⟩,hg2,hok1,hone1,fk1,fk2,fdv,fr,hos1,hfr⟩;have Hk1:Hid (∀ o∈os1,K g w1 o):=by
  rw[hos1];exact HP.out.kfirst g w1 fk1 fk2 fdv fr hfr
 have Hown1:Hid (w1.ownsRow w.heap.size 41 11 (.slice (some ⟨g,0,none⟩) 11 11) 11 (bP os1)):=by
  have hcs:cur.size=11*11:=by
   have:=congrArg List.length hcl;rw[jW,hl1]at this
   simpa using this
  exact⟨by rw[jW,hl1],.inr ⟨g,11,cur,rfl,hg1,hcur,Nat.le_refl _,by simp[maxLen],hcs,by rw[←hcl,List.take_of_length_le (by simp[hcs])]⟩⟩
 have Hsrc1:Hid (eO w1 sv os.length (bP os)):=by
  rcases hsrc with h|⟨b,off,c,rfl,hrow⟩|h
  ·exact .inl h
  ·refine .inr (.inl ⟨b,off,c,rfl,?_⟩);intro j v hv;have:=hrow j v hv;exact aA hb1 this (aC this)
  ·exact .inr (.inr h)
 have Hok1:=aB hok1;clear hcur hcl hok1 hone1 hsrc hos1 hfr;have hz1:=hb1.size
 go_wp2_with (at_builtin;refine aD rfl (.tmp 13) (.tmp 14) 22 rfl w.heap.size 41 (.agg #[.int .i64 0,.int .i64 0,.int .i64 0,.int .i64 0,.int .i64 0,.int .i64 0,.slice none 0 0,.slice none 0 0,.slice none 0 0,.slice none 0 0,.string ⟨#[]⟩]) 11 160 Tryz.underlying22 Tryz.info41 rfl (by omega) _ 11 (bP os1) rfl Hown1.out sv os.length (bP os) rfl Hsrc1.out (jW os) Hone.out (by omega) (by omega) (by omega) ?_)
 intro v2 w2 hown2 hgr2 hwh2;have hrow2:bP os1++bP os=bP (os1++os):=by simp[bP]
 rw[hrow2]at hown2;clear hrow2;obtain⟨N,hN⟩:∃ N,N=11+os.length:=⟨_,rfl⟩;rw[←hN]at hown2;rcases bK hown2.out with⟨_,h0,_⟩|⟨ga,cap,rfl,hga1,hga2,hrowa⟩
 ·omega
 have hb2:Below g w1 w2:=(Below.refl _ _).grown hgr2.out (by omega) (by intro k hk;simp[Value.ownBlock]at hk;omega)
 have hbw2:Below w.heap.size w w2:=hb1.trans (hb2.mono hg1);have hz2:=hb2.size;have hNl:(os1++os).length=N:=by rw[List.length_append,hl1,hN]
 have HokA:Hid (∀ o∈os1++os,OpOK w2.heap.size w2 o):=by
  intro o ho;rcases List.mem_append.1 ho with h|h
  ·exact((Hok1.out o h).below hb2).mono (by omega)
  ·exact((Hos.out o h).below hbw2).mono (by omega)
 have HkA:Hid (∀ o∈os1++os,K w2.heap.size w2 o):=by
  intro o ho;rcases List.mem_append.1 ho with h|h
  ·exact HP.out.kmono _ _ _ _ (HP.out.kbelow _ _ _ _ (Hk1.out o h) hb2) (by omega)
  ·exact HP.out.kmono _ _ _ _ (HP.out.kbelow _ _ _ _ (Hks.out o h) hbw2) (by omega)
 generalize os1++os=all at hown2 hrowa hNl HokA HkA;have hNb:N*160≤140737488355328:=by omega
 have hNl2:N≤lim:=by omega
 have HNl:=aB hNl;clear hNl hN Hok1 Hk1 Hks Hos Hown1 Hsrc1 Hone hown2 hgr2 hwh2 hl1 hn hlim
 go_wp2
 go_loopw [7,8,9,10,11] (fun i _ _ _ _ wr=>∃ (k j:Nat) (lv:Value) (ps:List Pair) (bk:BookD),k≤N∧j≤k∧i=.int .i64 k∧ps.length≤k∧Below w2.heap.size w2 wr∧Inv w2.heap.size wr w2.heap.size lv ps bk∧Hid (Good j bk)) (fun i _ _ _ _ _=>N-(intOf i).toNat)
 case atStart=>
  obtain⟨bk0,hg0,hi0⟩:=HP.out.start;exact⟨0,0,_,[],bk0,by omega,by omega,rfl,by simp,(Below.refl _ _).alloc (Nat.le_refl _) _,hi0 w2 35,hg0⟩
 case round=>
  obtain⟨k,j,lv,ps,bk,hk,hjk,rfl,hpk,hbel,hI,hG⟩:=hrel;have HI:=aB hI;clear hI
  by_cases hlt:k<N
  ·have d1:decide ((k:Int)<(N:Int))=true:=by simp;omega
   have d2:decide ((k:Int)<144115188075855872)=true:=by simp;omega
   obtain⟨o,ho⟩:∃ o,all[k]?=some o:=⟨all[k]'(by rw[HNl.out];exact hlt),by simp[HNl.out,hlt]⟩
   obtain⟨x0,x1,x2,x3,x4,x5,x6,x7,x8,x9,x10⟩:=aDz (RowAt.below hrowa hbel hga2) ho;have HOK:Hid (OpOK w2.heap.size wr o):=((HokA.out o (List.mem_of_getElem? ho)).below hbel);have HKK:Hid (K w2.heap.size wr o):=HP.out.kbelow _ _ _ _ (HkA.out o (List.mem_of_getElem? ho)) hbel;have Ho:=aB ho;clear ho;obtain⟨ka,kn,kc,hkv⟩:∃ a n c,o.kv=.slice a n c:=by
    obtain⟨_,⟨h,_⟩|⟨b,off,cap,h,_⟩|⟨ea,ec,h,_⟩⟩:=HOK.out.kinds
    ·exact⟨_,_,_,h⟩
    ·exact⟨_,_,_,h⟩
    ·exact⟨_,_,_,h⟩
   obtain⟨la,lc,hlv⟩:=HOK.out.draws.form;obtain⟨ra,rn,rc,hrv⟩:=HOK.out.rform;obtain⟨qa,qn,qc,hqv⟩:=HOK.out.qform;obtain⟨ss,hsv⟩:=HOK.out.sform;rw[hkv]at x6;rw[hlv]at x7;rw[hrv]at x8;rw[hqv]at x9;rw[hsv]at x10;have Hf:Hid (o.kv=.slice ka kn kc∧o.l=.slice la o.draws.length lc∧o.rv=.slice ra rn rc∧o.qv=.slice qa qn qc∧o.sv=.string ss):=⟨hkv,hlv,hrv,hqv,hsv⟩;clear hkv hlv hrv hqv hsv;obtain⟨W1,hW1⟩:∃ W1,W1=wr.alloc (.cells #[.int .i64 o.kind,.int .i64 o.a,.int .i64 o.b,.int .i64 o.c,.int .i64 o.d,.int .i64 o.ents,.slice ka kn kc,.slice la o.draws.length lc,.slice ra rn rc,.slice qa qn qc,.string ss] 41):=⟨_,rfl⟩;have hbW1:Below wr.heap.size wr W1:=by rw[hW1];exact(Below.refl _ _).alloc (Nat.le_refl _) _
   have hzr:=hbel.size;have hbw2W1:Below w2.heap.size w2 W1:=hbel.trans (hbW1.mono (by omega))
   have z0:W1.cell? ⟨wr.heap.size,0,none⟩=some (.int .i64 o.kind):=by rw[hW1];simp[go_sem]
   have z1:W1.cell? ⟨wr.heap.size,1,none⟩=some (.int .i64 o.a):=by rw[hW1];simp[go_sem]
   have z2:W1.cell? ⟨wr.heap.size,2,none⟩=some (.int .i64 o.b):=by rw[hW1];simp[go_sem]
   have z3:W1.cell? ⟨wr.heap.size,3,none⟩=some (.int .i64 o.c):=by rw[hW1];simp[go_sem]
   have z4:W1.cell? ⟨wr.heap.size,4,none⟩=some (.int .i64 o.d):=by rw[hW1];simp[go_sem]
   have z5:W1.cell? ⟨wr.heap.size,5,none⟩=some (.int .i64 o.ents):=by rw[hW1];simp[go_sem]
   have z6:W1.cell? ⟨wr.heap.size,6,none⟩=some (.slice ka kn kc):=by rw[hW1];simp[go_sem]
   have z7:W1.cell? ⟨wr.heap.size,7,none⟩=some (.slice la o.draws.length lc):=by rw[hW1];simp[go_sem]
   have z8:W1.cell? ⟨wr.heap.size,8,none⟩=some (.slice ra rn rc):=by rw[hW1];simp[go_sem]
   have z9:W1.cell? ⟨wr.heap.size,9,none⟩=some (.slice qa qn qc):=by rw[hW1];simp[go_sem]
   have z10:W1.cell? ⟨wr.heap.size,10,none⟩=some (.string ss):=by rw[hW1];simp[go_sem]
   have HW1:=aB hW1;have HI1:=aB (HI.out.below hbW1);clear hW1;have HAm:Hid (∀ W,Below w2.heap.size w2 W→Calls Tryz.prog 10 #[.slice (some ⟨pb,0,none⟩) pl.length pl.length,.int .i64 o.kind] W fun e w'=>e=.returned (.bool (fD pl o.kind))∧w'=W):=by
    intro W hW;exact aD8 pb 0 pl.length pl o.kind W HP.out.len (RowAt.below hpl (hbw2.trans (hW.mono (by omega))) hpb)
   go_wp2_with fail
   rw[←HW1.out];refine(HAm.out _ hbw2W1).mono ?_;rintro e w4 ⟨rfl,rfl⟩;rcases hin:fD pl o.kind with _|_
   ·go_wp2
    go_roundw
    case rel=>exact⟨k+1,j,lv,ps,bk,by omega,by omega,by go_num,by omega,hbw2W1,HI1.out,hG⟩
    case measure=>simp[intOf];omega
   ·have HS:=aB (HP.out.step j w2.heap.size w2.heap.size lv ps bk o w4 (by omega) HI1.out hG.out (HOK.out.below (hbW1.mono (by omega))) (HP.out.kbelow _ _ _ _ HKK.out (hbW1.mono (by omega))) hin (by omega) (by omega))
    rw[Hf.out.1,Hf.out.2.1,Hf.out.2.2.1,Hf.out.2.2.2.1,Hf.out.2.2.2.2]at HS
    go_wp2_with fail
    refine HS.out.mono ?_;rintro e w5 ⟨rfl,hB5,lv5,ps5,bk5,hl5,hI5,hG5⟩;have HI5:=aB hI5;have HG5:=aB hG5;clear hI5 hG5;have hB25:Below w2.heap.size w2 w5:=hbw2W1.trans hB5;have HLk:=aB (HP.out.looks (j+1) _ _ _ _ _ _ (by omega) HI5.out HG5.out)
    go_wp2_with fail
    refine HLk.out.mono ?_;rintro e w6 ⟨rfl,hb6⟩;have hz5:=hB25.size;have HI6:=aB (HI5.out.below hb6);have HB26:Hid (Below w2.heap.size w2 w6):=hB25.trans (hb6.mono hz5);clear hb6 HLk
    go_wp2_with fail
    go_roundw
    case rel=>exact⟨k+1,j+1,lv5,ps5,bk5,by omega,by omega,by go_num,by omega,HB26.out,HI6.out,HG5⟩
    case measure=>simp[intOf];omega
  ·have d1:decide ((k:Int)<(N:Int))=false:=by simp;omega
   have HAp:=aB (HP.out.apart j _ _ _ _ _ _ (by omega) HI.out hG.out)
   go_wp2_with fail
   refine HAp.out.mono ?_;rintro e w6 ⟨rfl,hb6⟩;have HB6:Hid (Below w2.heap.size w2 w6):=hbel.trans hb6;clear hb6 HAp
   go_wp2_with fail
   go_ret;exact⟨rfl,hbw2.trans (HB6.out.mono (by omega))⟩
def noK(_:Nat)(_:World)(_:OpD):Prop:=True
theorem PlayX.of{pl:List Int}{lim:Nat}{Good:Nat→BookD→Prop}(h1:∃ bk0,Good 0 bk0∧∀ (w:World) (T:TypeId),Inv w.heap.size (w.alloc (.cells #[.slice none 0 0,.slice none 0 0,.slice none 0 0,.slice none 0 0] T)) w.heap.size (.slice none 0 0) [] bk0)(h2:pl.length≤1000)
  (h3:∀ (j base wb:Nat) (lv:Value) (ps:List Pair) (bk:BookD) (o:OpD) (w:World),j<lim→Inv base w wb lv ps bk→Good j bk→OpOK base w o→fD pl o.kind=true→(ps.length+1)*16≤140737488355328→0<base →
   Calls Tryz.prog 11 #[.pointer (some ⟨wb,0,none⟩),.agg #[.int .i64 o.kind,.int .i64 o.a,.int .i64 o.b,.int .i64 o.c,.int .i64 o.d,.int .i64 o.ents,o.kv,o.l,o.rv,o.qv,o.sv]] w
    fun e w'=>e=.returned (.bool true)∧Below base w w'∧∃ lv' ps' bk',ps'.length≤ps.length+1∧Inv base w' wb lv' ps' bk'∧Good (j+1) bk')
  (h4:∀ (j base wb:Nat) (lv:Value) (ps:List Pair) (bk:BookD) (w:World),j≤lim→Inv base w wb lv ps bk→Good j bk→Calls Tryz.prog 12 #[.pointer (some ⟨wb,1,none⟩)] w fun e w'=>e=.returned (.bool true)∧Below w.heap.size w w')
  (h5:∀ (j base wb:Nat) (lv:Value) (ps:List Pair) (bk:BookD) (w:World),j≤lim→Inv base w wb lv ps bk→Good j bk→Calls Tryz.prog 13 #[.pointer (some ⟨wb,1,none⟩)] w fun e w'=>e=.returned (.bool true)∧Below base w w'):PlayX noK pl lim Good:=
 ⟨h1,h2,fun j base wb lv ps bk o w a b c d _=>h3 j base wb lv ps bk o w a b c d,h4,h5,fun _ _ _ _ _ _=>trivial,fun _ _ _ _ _ _=>trivial,fun _ _ _ _ _ _ _ _ _=>trivial⟩
theorem aG7{base:Nat}(wb:Nat)(lv:Value)(ps:List Pair)(k:BkD)(J:Nat)(o:OpD)(w:World)(h:Inv base w wb lv ps (aP k))(ho:OpOK base w o)(hk:o.kind=3∨o.kind=4∨o.kind=5∨o.kind=6)(hlen:(ps.length+1)*16≤140737488355328)(hG:BkLen J k)(hJ:J≤2000000) :
  Calls Tryz.prog 11 #[.pointer (some ⟨wb,0,none⟩),.agg #[.int .i64 o.kind,.int .i64 o.a,.int .i64 o.b,.int .i64 o.c,.int .i64 o.d,.int .i64 o.ents,o.kv,o.l,o.rv,o.qv,o.sv]] w
   fun e w'=>e=.returned (.bool true)∧Below base w w'∧∃ lv' ps' bk',ps'.length≤ps.length+1∧Inv base w' wb lv' ps' bk'∧∃ k',bk'=aP k'∧BkLen (J+1) k'∧k'.bl=k.bl:=by
 by_cases hp:ps=[]
 ·subst hp;refine(aB9 wb lv (aP k) o w h (by omega)).mono ?_
  rintro e w' ⟨rfl,hB,lv',ps',hl,hI⟩;exact⟨rfl,hB,lv',ps',_,hl,hI,k,rfl,hG.next,rfl⟩
 ·have hps:=List.length_pos_iff.2 hp
  by_cases h4:o.kind=4
  ·refine pF wb lv ps (aP k) o w h ho (by omega) hps hlen (fun bk=>∃ k',bk=aP k'∧BkLen (J+1) k'∧k'.bl=k.bl) ?_
   intro W' p hI hp';rw[h4];refine(aCd wb lv ps k J _ p o.a o.b o.c o.d o.ents o.kv o.l o.rv o.qv o.sv W' hI hp' hG hJ).mono ?_;rintro e w' ⟨rfl,ho',ps',k',hl,hi,hb,hbl⟩;exact⟨rfl,ho',ps',_,hl,hi,k',rfl,hb,hbl⟩
  ·refine(aDy wb lv ps (aP k) o w h ho (by omega) hps hlen).mono ?_
   rintro e w' ⟨rfl,hB,lv',ps',hl,hI⟩;exact⟨rfl,hB,lv',ps',_,hl,hI,k,rfl,hG.next,rfl⟩
theorem aE0{base:Nat}{wb:Nat}{lv:Value}{ps:List Pair}{k:BkD}{J:Nat}{w:World}(h:Inv base w wb lv ps (aP k))(hG:BkLen J k)(hJ:J≤2000000):Calls Tryz.prog 12 #[.pointer (some ⟨wb,1,none⟩)] w fun e w'=>e=.returned (.bool true)∧Below w.heap.size w w':=
 aBq wb k w h.bkp (by have:=hG.bl;omega) (by have:=hG.il;omega) (by have:=hG.rl;omega)
theorem aFh:BkLen 0 bk0:=⟨by simp[bk0],by simp[bk0],by simp[bk0],by simp[bk0],by simp[bk0],by simp[bk0]⟩
end Go.Proofs.YtndlmgocldckfaaGreat
