import Derived.Test.YtndlmgocldckfaaGreatStG
import Derived.Test.YtndlmgocldckfaaGreatG37
import Derived.Test.YtndlmgocldckfaaGreatG20
import Derived.Deep.RegionWith
import Derived.Test.YtndlmgocldckfaaGreatG03
import Derived.Test.YtndlmgocldckfaaGreatG28
import Derived.Test.YtndlmgocldckfaaGreatG34
import Derived.Lib.BufferWrite
namespace Go.Proofs.YtndlmgocldckfaaGreat
open Go.RowKit
set_option linter.unusedVariables false
set_option linter.unusedSimpArgs false
set_option maxRecDepth 100000
set_option maxHeartbeats 4000000
section
variable {R : Nat → Prop} {lo : Nat} {w w' : World} {rb gb : Nat} {ents : Int} {ks : List (List Ins)} {draws : List Int} {s : KS} {qv : Value} {m : Nat}
theorem LkP.refK(h:LkP R lo w rb gb ents ks draws s qv (ents*4).toNat)(he:1≤ents∧ents≤8):RefK (fun b=>R b∨b=gb∨some b=qv.ownBlock) w rb ents ks draws s.taken s.clock s.next (cY ents s) s.q:=by
 obtain⟨kv,k1,k2⟩:=h.kinds;obtain⟨dv,d1,d2⟩:=h.draw;refine⟨⟨kv,dv,_,qv,h.c0,k1,d1,h.c3,h.c4,h.c5,h.c6,h.c7,k2.mono (fun b hb=>.inl hb),d2.mono (fun b hb=>.inl hb),⟨by rw[dI];omega,.inr ⟨gb,0,_,by rw[dI],.inr (.inl rfl),?_⟩⟩,?_⟩,h.room⟩
 ·intro j v hv;have hj:j<(ents*4).toNat:=by have:=(List.getElem?_eq_some_iff.1 hv).1;simpa [ints,cY]using this
  simp[ints,cY,hj]at hv;subst hv;rw[Nat.zero_add];exact h.regs j hj
 ·rcases bK h.que with⟨e,h0,_⟩|⟨g,cap,e,_,_,hr⟩
  ·exact .inl ⟨e,List.eq_nil_of_length_eq_zero h0⟩
  ·obtain⟨_,⟨e1,_⟩|⟨g1,cap1,cur,e1,_,_,hn,hm,_,_⟩⟩:=h.que
   ·rw[e]at e1;simp at e1
   ·rw[e]at e1;simp only[Value.slice.injEq,Option.some.injEq,Addr.mk.injEq,and_true,true_and]at e1;obtain⟨rfl,rfl⟩:=e1;refine .inr ⟨g,0,cap,e,hn,by unfold maxLen at hm;omega,.inr (.inr (by rw[e];rfl)),?_⟩
    exact RowAt.code hr
theorem LkP.setI(h:LkP R lo w rb gb ents ks draws s qv m)(j:Nat)(v:Value)(hj:j=3∨j=4∨j=5)(s':KS)(h3:j=3→v=.int .i64 s'.taken)(h4:j=4→v=.int .i64 s'.clock)(h5:j=5→v=.int .i64 s'.next)(n3:j≠3→s'.taken=s.taken)(n4:j≠4→s'.clock=s.clock)(n5:j≠5→s'.next=s.next)(hr:s'.regs=s.regs)(hq:s'.q=s.q) :
  LkP R lo (w.setCell ⟨rb,j,none⟩ v) rb gb ents ks draws s' qv m:=by
 have ho:Only (·=rb) w (w.setCell ⟨rb,j,none⟩ v):=Only.setCell (S:=(·=rb)) (Only.refl _ _) rfl _
 have hcell:∀ (i:Nat) u,i≠j→w.cell? ⟨rb,i,none⟩=some u→(w.setCell ⟨rb,j,none⟩ v).cell? ⟨rb,i,none⟩=some u:=by
  intro i u hi hu;rw[World.cell?_setCell_other _ _ _ _ (by simp;try omega)];exact hu
 have hat:(w.setCell ⟨rb,j,none⟩ v).cell? ⟨rb,j,none⟩=some v:=World.cell?_setCell_same' _ _ _ (h.room j (by omega)).1
 have hsz:(w.setCell ⟨rb,j,none⟩ v).heap.size=w.heap.size:=by simp[World.setCell]
 obtain⟨kv,k1,k2⟩:=h.kinds;obtain⟨dv,d1,d2⟩:=h.draw;have hRS:∀ b,R b→¬b=rb:=fun b hb=>(h.far b hb).2.1;have hgr:¬gb=rb:=fun e=>h.ne e.symm;refine⟨hcell 0 _ (by omega) h.c0,⟨kv,hcell 1 _ (by omega) k1,k2.only ho hRS⟩,⟨dv,hcell 2 _ (by omega) d1,d2.only ho hRS⟩,?_,?_,?_,hcell 6 _ (by omega) h.c6,fun i hi=>by rw[hr];exact ho.at (h.regs i hi) hgr,h.rroom.only ho hgr,hcell 7 _ (by omega) h.c7,by rw[hq];exact aN h.que ho (fun b hb e=>h.qr (by rw[←e];exact hb)),h.room.setCell _ _,fun b hb=>by rw[hsz];exact h.far b hb,h.ne,by rw[hsz];exact h.glt,h.qr,h.qg⟩
 ·by_cases e:j=3
  ·rw[←h3 e,←e];exact hat
  ·rw[n3 e];exact hcell 3 _ (Ne.symm e) h.c3
 ·by_cases e:j=4
  ·rw[←h4 e,←e];exact hat
  ·rw[n4 e];exact hcell 4 _ (Ne.symm e) h.c4
 ·by_cases e:j=5
  ·rw[←h5 e,←e];exact hat
  ·rw[n5 e];exact hcell 5 _ (Ne.symm e) h.c5
theorem LkP.setR(h:LkP R lo w rb gb ents ks draws s qv m)(j:Nat)(v:Int)(hj:j<m):LkP R lo (w.setCell ⟨gb,j,none⟩ (.int .i64 v)) rb gb ents ks draws {s with regs:=cD s.regs j v} qv m:=by
 have ho:Only (·=gb) w (w.setCell ⟨gb,j,none⟩ (.int .i64 v)):=Only.setCell (S:=(·=gb)) (Only.refl _ _) rfl _
 have hsz:(w.setCell ⟨gb,j,none⟩ (.int .i64 v)).heap.size=w.heap.size:=by simp[World.setCell]
 obtain⟨kv,k1,k2⟩:=h.kinds;obtain⟨dv,d1,d2⟩:=h.draw;have hRS:∀ b,R b→¬b=gb:=fun b hb=>(h.far b hb).2.2.1;have hr:¬rb=gb:=h.ne;refine⟨ho.at h.c0 hr,⟨kv,ho.at k1 hr,k2.only ho hRS⟩,⟨dv,ho.at d1 hr,d2.only ho hRS⟩,ho.at h.c3 hr,ho.at h.c4 hr,ho.at h.c5 hr,ho.at h.c6 hr,?_,h.rroom.setCell _ _,ho.at h.c7 hr,aN h.que ho (fun b hb e=>h.qg (by rw[←e];exact hb)),h.room.only ho hr,fun b hb=>by rw[hsz];exact h.far b hb,h.ne,by rw[hsz];exact h.glt,h.qr,h.qg⟩
 intro i hi;show _=some (Value.int .i64 (cD s.regs j v i));unfold cD
 by_cases e:i=j
 ·subst e;rw[if_pos rfl];exact World.cell?_setCell_same' _ _ _ (h.rroom i hi).1
 ·rw[if_neg e,World.cell?_setCell_other _ _ _ _ (by simp;try omega)]
  exact h.regs i hi
end
section
variable {R : Nat → Prop} {lo : Nat} {w0 w w' : World} {rb gb db : Nat} {ents : Int} {ks : List (List Ins)} {draws : List Int} {s : KS} {qv : Value} {m : Nat} {all l : List Int} {bad : Bool}
theorem LdS.put(h:LdS R lo w0 w rb gb db ents ks draws s qv m all l bad){B j:Nat}{v:Value}{s':KS}(hB:B=rb∨B=gb)(hk:LkP R lo (w.setCell ⟨B,j,none⟩ v) rb gb ents ks draws s' qv m):LdS R lo w0 (w.setCell ⟨B,j,none⟩ v) rb gb db ents ks draws s' qv m all l bad:=by
 have ho:Only (·=B) w (w.setCell ⟨B,j,none⟩ v):=Only.setCell (S:=(·=B)) (Only.refl _ _) rfl _
 have hsz:(w.setCell ⟨B,j,none⟩ v).heap.size=w.heap.size:=by simp[World.setCell]
 have hl:=h.los;refine⟨h.bel.trans (ho.below hl.2.2.2 (fun k hk hc=>by rcases hB with e|e<;>omega)),hk,h.rd.only ho (fun hc=>h.sep ?_),h.sep,h.rsep,⟨hl.1,hl.2.1,hl.2.2.1,by omega⟩⟩
 rcases hB with e|e
 ·exact .inl (by omega)
 ·exact .inr (.inl (by omega))
end
theorem aEx{w:World}{lo rb:Nat}{E:Nat}{ks:List (List Ins)}{draws:List Int}(h:mB w lo rb (E:Int) ks draws ((E:Int)*4).toNat)(hlo:lo≤rb):∃ gb,lo≤gb∧gb<w.heap.size∧LkP (fun b=>lo≤b∧b<w.heap.size∧b≠rb∧b≠gb) lo w rb gb (E:Int) ks draws ks0 (.slice none 0 0) ((E:Int)*4).toNat:=by
 obtain⟨⟨gb,kv,dv,g1,g2,g3,c0,c1,c2,c3,c4,c5,c6,c7,hro,hrw,hk,hd⟩,hroom⟩:=h;refine⟨gb,g1,g2,c0,⟨kv,c1,hk⟩,⟨dv,c2,hd⟩,c3,c4,c5,c6,?_,hro,c7,World.ownsRow_nil _ _ _ _,hroom,fun b hb=>⟨hb.2.1,hb.2.2.1,hb.2.2.2,by simp[Value.ownBlock]⟩,Ne.symm g3,g2,by simp[Value.ownBlock],by simp[Value.ownBlock]⟩
 intro j hj;have:=hrw j (.int .i64 0) (by simp[ints,hj])
 rw[Nat.zero_add]at this;exact this
structure RgI(R:Nat→Prop)(lo:Nat)(w0 wr:World)(rb gb db:Nat)(ents:Int)(ks:List (List Ins))(draws:List Int)(s:KS)(qv:Value)(m:Nat)(all:List Int)(RES:(Nat→Int)×List Int×Bool)(i:Nat)(f:Nat→Int)(l:List Int)(bad:Bool):Prop where
 ld:LdS R lo w0 wr rb gb db ents ks draws {s with regs:=f} qv m all l bad
 res:dM (m-i) i f l bad=RES
theorem aDb(E:Nat)(b off cap:Nat)(dv:Value)(ks:List (List Ins))(draws:List Int)(l:List Int)(w:World)(hl:ks.length≤8)(hbw:b<w.heap.size)(hK:KindsAt w.heap.size w b off ks)(hd:IntsX w.heap.size w dv draws)(hk:bE (E:Int) ks=none)(hD:cO draws=true)(he:1≤E∧E≤8)(hdl:draws.length≤1000)(hv:∀ c∈l,0≤c∧c<256)(hll:l.length≤1000000000) :
  Calls Tryz.prog 32 #[.agg #[.int .i64 E,.slice (some ⟨b,off,none⟩) ks.length cap],dv,.string (aH l)] w
   fun e w'=>Below w.heap.size w w'∧((iX E ks.length draws.length l=0∧∃ rb R,e=.returned (.tuple #[.pointer (some ⟨rb,0,none⟩),.int .i64 0])∧w.heap.size≤rb∧rb<w'.heap.size∧(∀ x,R x→w.heap.size≤x∧x<w'.heap.size∧x≠rb)∧RefK R w' rb (E:Int) ks draws (gX E ks.length draws.length (aK l)).1.taken (gX E ks.length draws.length (aK l)).1.clock (gX E ks.length draws.length (aK l)).1.next (cY (E:Int) (gX E ks.length draws.length (aK l)).1) (gX E ks.length draws.length (aK l)).1.q)∨(iX E ks.length draws.length l≠0∧e=.returned (.tuple #[.pointer none,.int .i64 (iX E ks.length draws.length l)]))):=by
 obtain⟨W,hW⟩:∃ W,W=w.alloc (.cells #[.int .i64 E,.slice (some ⟨b,off,none⟩) ks.length cap] 38):=⟨_,rfl⟩;have hbW:Below w.heap.size w W:=by rw[hW];exact aE _ _
 have hzW:W.heap.size=w.heap.size+1:=by rw[hW];simp
 have m0:W.cell? ⟨w.heap.size,0,none⟩=some (.int .i64 E):=by rw[hW];simp[go_sem]
 have m1:W.cell? ⟨w.heap.size,1,none⟩=some (.slice (some ⟨b,off,none⟩) ks.length cap):=by rw[hW];simp[go_sem]
 have HNew:=aB (yG (E:Int) b off cap dv ks draws W (by omega) (by omega) ((hK.below hbW hbw (Nat.le_refl _)).mono (by omega)) ((hd.below hbW).mono (by omega)) hk)
 obtain⟨da,dc,rfl⟩:=hd.form;have Hv:=aB hv;have HD:=aB hD;have HW:=aB hW;have HbW:=aB hbW;have hzl:(aH l).size=l.length:=bV l;have HFr:=aB (fun W'=>tT [84,77,80,1] l W' hv hll rfl (by simp))
 clear hK hd hv hD hW hbW hk
 go_enter Tryz.func32,Tryz.ntmps32
 go_wp2_with fail
 rw[←HW.out];refine HNew.out.mono ?_;rintro e w1 hnew;have hy:∃ rb,e=.returned (.tuple #[.pointer (some ⟨rb,0,none⟩),.int .i64 0])∧Below W.heap.size W w1∧W.heap.size≤rb∧rb<w1.heap.size∧mB w1 W.heap.size rb (E:Int) ks draws ((E:Int)*4).toNat:=by
  rcases hnew with⟨hc,_⟩|⟨_,h⟩
  ·have:cO draws=false:=hc;rw[HD.out]at this;cases this
  ·exact h
 obtain⟨rb,rfl,hb1,hr1,hr2,hF1⟩:=hy;obtain⟨gb,hg1,hg2,hLk1⟩:=aEx hF1 hr1;clear hnew hF1 HNew HD;have n0:=aA hb1 m0 (by omega)
 have n1:=aA hb1 m1 (by omega)
 have hz1:=hb1.size;have HB1:Hid (Below w.heap.size w w1):=HbW.out.trans (hb1.mono (by omega))
 have HLk1:=aB hLk1;have HBw:Hid (Below W.heap.size W w1):=hb1;clear hb1 hLk1 m0 m1 HW
 by_cases h0:aU [84,77,80,1] l=0
 rotate_left
 ·have d0:(aU [84,77,80,1] l != 0)=true:=by simpa using h0
  have HE:Hid (iX E ks.length draws.length l=aU [84,77,80,1] l):=by show _=_;rw[iX,if_pos h0]
  have Hn0:=aB h0;clear h0
  go_wp2_with (go_at_call 66;refine(HFr.out _).mono ?_;rintro e w2 ⟨rfl,hb2⟩)
  go_ret2;rw[HE.out];exact⟨HB1.out.trans (hb2.mono (by omega)),.inr ⟨Hn0.out,rfl⟩⟩
 ·have HZ:=aB (iW h0);have hl8:8≤l.length:=(iW h0).1;have HH:=aB h0;have x2:(aH l).extract 0 (l.length-4)=aH (l.take (l.length-4)):=by rw[mM];rfl
  have e4:((l.length:Int)-4).toNat=l.length-4:=by omega
  rw[h0]at HFr;clear h0
  go_wp2_with (go_at_call 66;refine(HFr.out _).mono ?_;rintro e w2 ⟨rfl,hb2⟩;(have o0:=aA hb2 n0 (by omega));(have o1:=aA hb2 n1 (by omega));(have hlt2:w.heap.size<w2.heap.size:=by have:=hb2.size;omega))
  obtain⟨W3,hW3⟩:∃ W3,W3=w2.alloc (.cells #[.string (aH (l.take (l.length-4))),.int .i64 4,.bool false] 125):=⟨_,rfl⟩;have hz2:=hb2.size;clear hlt2;have hb3:Below w2.heap.size w2 W3:=by rw[hW3];exact aE _ _
  obtain⟨db,hdb⟩:∃ db,db=w2.heap.size:=⟨_,rfl⟩;have hRd:RdS W3 db (l.take (l.length-4)) (aK l) false:=by
   rw[hdb];refine⟨by rw[hW3];simp[go_sem],⟨4,by simp;omega,rfl,by rw[hW3];simp[go_sem]⟩,by rw[hW3];simp[go_sem],?_⟩
   intro j hj;rw[hW3];have:j=0∨j=1∨j=2:=by omega
   rcases this with rfl|rfl|rfl<;>simp[go_sem]
  have HL0:Hid (LdS (fun b=>W.heap.size≤b∧b<w1.heap.size∧b≠rb∧b≠gb) W.heap.size W W3 rb gb db (E:Int) ks draws ks0 (.slice none 0 0) ((E:Int)*4).toNat (l.take (l.length-4)) (aK l) false):=by
   refine⟨HBw.out.trans ((hb2.mono hz1).trans (hb3.mono (by omega))),(HLk1.out.below hb2).below hb3,hRd,?_,by rw[hdb];omega,⟨hr1,hg1,by omega,by have:=hb3.size;omega⟩⟩
   rintro (e|e|e)
   ·omega
   ·omega
   ·simp[Value.ownBlock]at e
  have q0:=aA hb3 o0 (by omega)
  have q1:=aA hb3 o1 (by omega)
  have hMd:w.heap.size≠db:=by omega
  have hMr:w.heap.size≠rb:=by omega
  have hrd:rb≠db:=by omega
  have hdW:w.heap.size<db:=by omega
  have HVA:Hid (∀ c∈l.take (l.length-4),0≤c∧c<256):=fun c hc=>Hv.out c (List.mem_of_mem_take hc);have hAl:(l.take (l.length-4)).length≤1000000000:=by simp;omega
  rw[←hW3,←hdb];clear hW3 hb3 hRd hb2 HLk1 o0 o1 n0 n1 hdb HFr HBw x2 e4;obtain⟨A,hA⟩:∃ A,A=l.take (l.length-4):=⟨_,rfl⟩;rw[←hA]at HL0 HVA hAl;clear hA;have HBytes:Hid (∀ c∈aK l,0≤c∧c<256):=qN Hv.out;obtain⟨R,hR⟩:∃ R:Nat→Prop,R=(fun b=>W.heap.size≤b∧b<w1.heap.size∧b≠rb∧b≠gb):=⟨_,rfl⟩;rw[←hR]at HL0;have HR:=aB hR;clear hR;rcases ea:aW E E (aK l) false with⟨v1,l1,f1⟩;have hb1:=bC (lo:=E) (hi:=E) (bad:=false) HBytes.out;rw[ea]at hb1;simp only at hb1;rcases eb:aW ks.length ks.length l1 f1 with⟨v2,l2,f2⟩;have hb2:=bC (lo:=ks.length) (hi:=ks.length) (bad:=f1) hb1;rw[eb]at hb2;simp only at hb2;rcases ec:aW 0 1000000000000 l2 f2 with⟨v3,l3,f3⟩;have hb3:=bC (lo:=0) (hi:=1000000000000) (bad:=f2) hb2;rw[ec]at hb3;simp only at hb3;rcases ed:aW 1 1000000000 l3 f3 with⟨v4,l4,f4⟩;have hb4:=bC (lo:=1) (hi:=1000000000) (bad:=f3) hb3;rw[ed]at hb4;simp only at hb4
  rcases ee:aW 0 (draws.length:Int) l4 f4 with⟨v5,l5,f5⟩;have hb5:=bC (lo:=0) (hi:=(draws.length:Int)) (bad:=f4) hb4;have hr5:=eC 0 (draws.length:Int) l4 f4 hb4;rw[ee]at hb5 hr5;simp only at hb5 hr5;obtain⟨tk,rfl⟩:∃ tk:Nat,v5=tk:=⟨v5.toNat,by omega⟩
  have HKL:Hid (gX E ks.length draws.length (aK l)=(if (dM (E*4) 0 ks0.regs l5 f5).2.2 then (⟨tk,v3,v4,(dM (E*4) 0 ks0.regs l5 f5).1,[]⟩,(dM (E*4) 0 ks0.regs l5 f5).2.1,true)else (⟨tk,v3,v4,(dM (E*4) 0 ks0.regs l5 f5).1,(quL E ks.length v4 (aW 0 16 (dM (E*4) 0 ks0.regs l5 f5).2.1 false).1.toNat v3 [] (aW 0 16 (dM (E*4) 0 ks0.regs l5 f5).2.1 false).2.1 (aW 0 16 (dM (E*4) 0 ks0.regs l5 f5).2.1 false).2.2).1⟩,(quL E ks.length v4 (aW 0 16 (dM (E*4) 0 ks0.regs l5 f5).2.1 false).1.toNat v3 [] (aW 0 16 (dM (E*4) 0 ks0.regs l5 f5).2.1 false).2.1 (aW 0 16 (dM (E*4) 0 ks0.regs l5 f5).2.1 false).2.2).2))):=by
   show _=_;unfold gX;simp only[ea,eb,ec,ed,ee,Int.toNat_natCast]
  have Hgd:Hid (f5=false→(0≤v3∧v3≤1000000000000)∧(1≤v4∧v4≤1000000000)):=by
   intro hf;have g5:=bJ (lo:=0) (hi:=(draws.length:Int)) (l:=l4) (bad:=f4) (by rw[ee];exact hf)
   have g4:=bJ (lo:=1) (hi:=1000000000) (l:=l3) (bad:=f3) (by rw[ed];exact g5.1)
   have g3:=bJ (lo:=0) (hi:=1000000000000) (l:=l2) (bad:=f2) (by rw[ec];exact g4.1)
   rw[ed]at g4;rw[ec]at g3;exact⟨g3.2,g4.2⟩
  have HA:=aB ea;have HBb:=aB eb;have HCc:=aB ec;have HDd:=aB ed;have HEe:=aB ee;have Hb5:=aB hb5;clear ea eb ec ed ee hb1 hb2 hb3 hb4 hb5 hr5;refine(HL0.out.num HVA.out hAl E E).mono ?_;rw[HA.out];rintro e x1 ⟨rfl,ho1,hL1⟩;simp only at hL1 ⊢;have p1:=ho1.at q1 hMd;have HL1:=aB hL1;clear ho1 hL1 HL0 q0 q1 HA
  go_wp2_with fail
  refine(HL1.out.num HVA.out hAl ks.length ks.length).mono ?_;rw[HBb.out];rintro e x2 ⟨rfl,ho2,hL2⟩;simp only at hL2 ⊢;have HL2:=aB hL2;clear ho2 hL2 HL1 p1 HBb
  go_wp2_with fail
  refine(HL2.out.num HVA.out hAl 0 1000000000000).mono ?_;rw[HCc.out];rintro e x3 ⟨rfl,ho3,hL3⟩;simp only at hL3 ⊢;have y4:=hL3.ker.c4;have g4:=(hL3.ker.room 4 (by omega)).2
  have HL3:Hid (LdS R W.heap.size W (x3.setCell ⟨rb,4,none⟩ (.int .i64 v3)) rb gb db (E:Int) ks draws {ks0 with clock:=v3} (.slice none 0 0) ((E:Int)*4).toNat A l3 f3):=hL3.put (.inl rfl) (hL3.ker.setI 4 _ (by omega) _ (by omega) (fun _=>rfl) (by omega) (fun _=>rfl) (by omega) (fun _=>rfl) rfl rfl)
  clear ho3 hL3 HL2 HCc
  go_wp2_with fail
  generalize hX4:x3.setCell ⟨rb,4,none⟩ (.int .i64 v3)=X4 at HL3 ⊢;clear hX4 y4 g4 x3;refine(HL3.out.num HVA.out hAl 1 1000000000).mono ?_;rw[HDd.out];rintro e x4 ⟨rfl,ho4,hL4⟩;simp only at hL4 ⊢;have y5:=hL4.ker.c5;have g5:=(hL4.ker.room 5 (by omega)).2
  have HL4:Hid (LdS R W.heap.size W (x4.setCell ⟨rb,5,none⟩ (.int .i64 v4)) rb gb db (E:Int) ks draws {ks0 with clock:=v3,next:=v4} (.slice none 0 0) ((E:Int)*4).toNat A l4 f4):=hL4.put (.inl rfl) (hL4.ker.setI 5 _ (by omega) _ (by omega) (by omega) (fun _=>rfl) (fun _=>rfl) (fun _=>rfl) (by omega) rfl rfl)
  clear ho4 hL4 HL3 HDd
  go_wp2_with fail
  generalize hX5:x4.setCell ⟨rb,5,none⟩ (.int .i64 v4)=X5 at HL4 ⊢;clear hX5 y5 g5 x4;refine(HL4.out.num HVA.out hAl 0 (draws.length:Int)).mono ?_;rw[HEe.out];rintro e x5 ⟨rfl,ho5,hL5⟩;simp only at hL5 ⊢;have y3:=hL5.ker.c3;have g3:=(hL5.ker.room 3 (by omega)).2
  have HL5:Hid (LdS R W.heap.size W (x5.setCell ⟨rb,3,none⟩ (.int .i64 tk)) rb gb db (E:Int) ks draws {ks0 with taken:=tk,clock:=v3,next:=v4} (.slice none 0 0) ((E:Int)*4).toNat A l5 f5):=hL5.put (.inl rfl) (hL5.ker.setI 3 _ (by omega) _ (fun _=>rfl) (by omega) (by omega) (by omega) (fun _=>rfl) (fun _=>rfl) rfl rfl)
  clear ho5 hL5 HL4 HEe
  go_wp2_with fail
  generalize hX6:x5.setCell ⟨rb,3,none⟩ (.int .i64 tk)=X6 at HL5 ⊢;clear hX6 y3 g3 x5;obtain⟨M,hM⟩:∃ M,M=((E:Int)*4).toNat:=⟨_,rfl⟩;rw[←hM]at HL5;have HM:Hid (M=E*4):=by show _=_;omega
  have HM2:Hid (M=((E:Int)*4).toNat):=hM;have hM32:M≤32:=by omega
  clear hM;obtain⟨RES,hRES⟩:∃ RES,RES=dM (E*4) 0 ks0.regs l5 f5:=⟨_,rfl⟩;rw[←hRES]at HKL;have HS:Hid (RgI R W.heap.size W X6 rb gb db (E:Int) ks draws {ks0 with taken:=tk,clock:=v3,next:=v4} (.slice none 0 0) M A RES 0 ks0.regs l5 f5):=⟨HL5.out,by rw[hRES,HM.out];rfl⟩
  have HRES:=aB hRES;clear hRES HL5
  go_loopg [11] (M+3) (fun g s11 wr=>∃ (i:Nat) (f:Nat→Int) (lk:List Int) (bad:Bool),s11=.int .i64 i∧M-i+2≤g∧i≤M∧Hid (RgI R W.heap.size W wr rb gb db (E:Int) ks draws {ks0 with taken:=tk,clock:=v3,next:=v4} (.slice none 0 0) M A RES i f lk bad))
  case atStart=>exact⟨0,ks0.regs,l5,f5,rfl,by omega,by omega,HS.out⟩
  case round=>
   obtain⟨i,f,lk,bad,rfl,hg,hi,hI⟩:=hrel;clear HS;have k6:=hI.out.ld.ker.c6;have k2:=hI.out.ld.rd.bad;have hgr:gb≠rb:=Ne.symm hI.out.ld.ker.ne;have hgd:gb≠db:=fun e=>hI.out.ld.sep (.inr (.inl e.symm));have go:(i<M∧bad=false)∨(¬(i<M∧bad=false)):=by by_cases h:i<M∧bad=false;exact .inl h;exact .inr h
   rcases go with⟨hlt,rfl⟩|hno
   ·have d1:decide ((i:Int)<(M:Int))=true:=by simp;omega
    have hii:(i:Int)<(M:Int):=by omega
    have hw:IntKind.i64.wrap ((i:Int)+1)=(i:Int)+1:=by rw[IntKind.wrap_i64];omega
    have HX:=aB (wH db A lk false wr.drew (hI.out.ld.rd.below (Below.refl _ _).drew) HVA.out hAl);have HJ0:=aB (hI.out.ld.fresh (Below.refl _ _).drew);have HRes:Hid (dM (M-(i+1)) (i+1) (cD f i (fM lk false).1) (fM lk false).2.1 (fM lk false).2.2=RES):=by
     have:=hI.out.res;rw[show M-i=(M-(i+1))+1 by omega,dM,if_neg (by simp)]at this
     exact this
    clear hI
    go_wp2_with fail
    go_region_held3 (fun W'=>W'.cell? ⟨rb,6,none⟩=some (.slice (some ⟨gb,0,none⟩) M M))
     (first|exact k6|exact z6|(rw[World.cell?_setCell_other _ _ _ _ (by simp[hgr])];exact z6))
     (first|(go_at_call 68;refine HX.out.mono ?_;rintro e' w6 ⟨rfl,ho6,hr6⟩;(have HL6:=aB (HJ0.out.read ho6 hr6));(have z6:=HL6.out.ker.c6);(have r0:=HL6.out.ker.regs i hlt);(have rf:=(HL6.out.ker.rroom i hlt).2)))
    have HL7:Hid (LdS R W.heap.size W (w6.setCell ⟨gb,i,none⟩ (.int .i64 (fM lk false).1)) rb gb db (E:Int) ks draws {ks0 with taken:=tk,clock:=v3,next:=v4,regs:=cD f i (fM lk false).1} (.slice none 0 0) M A (fM lk false).2.1 (fM lk false).2.2):=HL6.out.put (.inr rfl) (HL6.out.ker.setR i _ hlt)
    clear ho6 hr6 r0 rf HX z6 HL6 HJ0
    go_wp2_with fail
    go_roundg (M-(i+1)+2)
    case measure=>omega
    case rel=>exact⟨i+1,_,_,_,by go_num,Nat.le_refl _,by omega,HL7.out,HRes.out⟩
   ·have hMi:bad=false→M≤i:=fun hb=>Nat.le_of_not_lt (fun hc=>hno ⟨hc,hb⟩);have HRE:Hid (RES=(f,lk,bad)):=by
     show _=_;rw[←hI.out.res];cases bad with
     | true=>exact mZ _ _ _ _
     | false=>rw[show M-i=0 by have:=hMi rfl;omega];rfl
    have HLx:=aB hI.out.ld;have HBel:Hid (Below w.heap.size w wr):=HbW.out.trans (hI.out.ld.bel.mono (by omega))
    clear hI;rcases bad with _|_
    ·have hMi':=hMi rfl;have d1:decide ((i:Int)<(M:Int))=false:=by simp;omega
     have d1':decide (i<M)=false:=by simp;omega
     clear hno hMi;have hf5:f5=false:=by
      cases f5 with
      | false=>rfl
      | true=>
       have h1:=HRES.out;rw[mZ,HRE.out]at h1;simp at h1
     obtain⟨hv3,hv4⟩:=Hgd.out hf5;obtain⟨RQ,hRQ⟩:∃ RQ,RQ=quL (E:Int) ks.length v4 (aW 0 16 lk false).1.toNat v3 [] (aW 0 16 lk false).2.1 (aW 0 16 lk false).2.2:=⟨_,rfl⟩;have HKK:Hid (gX E ks.length draws.length (aK l)=(⟨tk,v3,v4,f,RQ.1⟩,RQ.2.1,RQ.2.2)):=by
      show _=_;rw[HKL.out,HRE.out];simp only[Bool.false_eq_true,if_false];rw[←hRQ]
     have HQ:=aB (aAv rb gb db (E:Int) ks draws ⟨tk,v3,v4,f,[]⟩ (.slice none 0 0) M A lk wr HLx.out HVA.out hAl rfl ⟨by omega,by omega⟩ hl hv4 hv3 RQ hRQ)
     clear hRQ HKL HRE HRES Hgd hf5;obtain⟨q8,l8,f8⟩:=RQ;simp only at HKK HQ;rcases f8 with _|_
     ·have hKf:(gX E ks.length draws.length (aK l)).2.2=false:=by rw[HKK.out]
      obtain⟨hfit,hz8⟩:=wK E ks draws (aK l) HBytes.out hKf;have hK1:(gX E ks.length draws.length (aK l)).1=⟨tk,v3,v4,f,q8⟩:=by rw[HKK.out]
      have HK1:=aB hK1;have HKf:=aB hKf;rw[hK1]at hfit;have HFit:=aB hfit;clear hK1 hKf hz8 hfit
      go_wp2_with (go_at_call 69;refine HQ.out.mono ?_;rintro e w8 ⟨rfl,qv8,hL8⟩;(have k8:=hL8.rd.bad);(have HL8:=aB hL8);clear hL8)
      have HRf:Hid (RefK (fun x=>R x∨x=gb∨some x=qv8.ownBlock) w8 rb (E:Int) ks draws tk v3 v4 (cY (E:Int) ⟨tk,v3,v4,f,q8⟩) q8):=by
       have h8:=HL8.out.ker;rw[HM2.out]at h8;exact h8.refK ⟨by omega,by omega⟩
      have HSv:=aB (pM rb (E:Int) ks draws ⟨tk,v3,v4,f,q8⟩ w8 HRf.out HFit.out.ok hl ⟨by omega,by omega⟩ hdl HFit.out.q.sorted)
      refine HSv.out.mono ?_;rintro e w9 ⟨rfl,hb9⟩;have hsb:∀ c∈dL (E:Int) ks.length ⟨tk,v3,v4,f,q8⟩,0≤c∧c<256:=by
       intro c hc;unfold dL mL at hc;rcases List.mem_append.1 hc with hc|hc
       ·rcases List.mem_append.1 hc with hc|hc
        ·simp at hc;omega
        ·exact jQ HFit.out.ok ⟨by omega,by omega⟩ hl hdl HFit.out.q.sorted c hc
       ·exact jC _ c hc
      have hcmp:=rI hsb Hv.out;have HB9:Hid (Below w.heap.size w w9):=HbW.out.trans ((HL8.out.bel.trans (hb9.mono HL8.out.los.2.2.2)).mono (by omega))
      have HLd:Hid (iX E ks.length draws.length l=if dL (E:Int) ks.length ⟨tk,v3,v4,f,q8⟩=l then 0 else 4):=by
       show _=_;rw[iX,if_neg (by simpa using HH.out),HKf.out,HK1.out]
       rfl
      have HEnd:Hid (∀ x,(R x∨x=gb∨some x=qv8.ownBlock)→w.heap.size≤x∧x<w9.heap.size∧x≠rb):=by
       intro x hx;have h9:=hb9.size;have hlos:=HL8.out.los;rcases hx with hx|hx|hx
       ·have:=HL8.out.ker.far x hx;have h2:=hx;rw[HR.out]at h2;exact⟨by omega,by omega,this.2.1⟩
       ·have:=HL8.out.ker.glt;have:=HL8.out.ker.ne;exact⟨by omega,by omega,by omega⟩
       ·have:=HL8.out.ker.que.lt x hx.symm;refine⟨by omega,by omega,fun e=>HL8.out.ker.qr (by rw[←e];exact hx)⟩
      have hr9:rb<w9.heap.size:=by have:=HL8.out.ker.rlt;have:=hb9.size;omega
      have HRf9:=aB (HRf.out.only (Only.new (S:=fun _=>False) hb9) (by simp) (by simp))
      generalize hSV:dL (E:Int) ks.length ⟨tk,v3,v4,f,q8⟩=SV at hcmp HLd;clear hSV hsb hb9 HSv k8 HL8 HRf
      by_cases hEq:SV=l
      ·have hcm:((aH SV).toList==(aH l).toList)=true:=by rw[hcmp];simpa using hEq
       have hLd0:iX E ks.length draws.length l=0:=by rw[HLd.out,if_pos hEq]
       have HLd0:=aB hLd0;clear hcmp hEq hLd0
       go_wp2_with fail
       go_ret2;rw[HK1.out];exact⟨HB9.out,.inl ⟨HLd0.out,rb,_,rfl,by omega,hr9,HEnd.out,HRf9.out⟩⟩
      ·have hcm:((aH SV).toList==(aH l).toList)=false:=by rw[hcmp];simpa using hEq
       have hLd0:iX E ks.length draws.length l=4:=by rw[HLd.out,if_neg hEq]
       have HLd0:=aB hLd0;clear hcmp hEq hLd0
       go_wp2_with fail
       go_ret2;rw[HLd0.out];exact⟨HB9.out,.inr ⟨by decide,rfl⟩⟩
     ·have HE:Hid (iX E ks.length draws.length l=4):=by
       show _=_;rw[iX,if_neg (by simpa using HH.out),HKK.out]
       rfl
      go_wp2_with (go_at_call 69;refine HQ.out.mono ?_;rintro e w8 ⟨rfl,qv8,hL8⟩;(have k8:=hL8.rd.bad);(have HL8:=aB hL8);clear hL8)
      go_ret2;rw[HE.out];exact⟨HbW.out.trans (HL8.out.bel.mono (by omega)),.inr ⟨by decide,rfl⟩⟩
    ·have HE:Hid (iX E ks.length draws.length l=4):=by
      show _=_;rw[iX,if_neg (by simpa using HH.out),HKL.out,HRE.out]
      rfl
     by_cases hlt:i<M
     ·have d1:decide ((i:Int)<(M:Int))=true:=by simp;omega
      have d1':decide (i<M)=true:=by simpa using hlt
      clear hno
      go_wp2_with fail
      go_ret2;rw[HE.out];exact⟨HBel.out,.inr ⟨by decide,rfl⟩⟩
     ·have d1:decide ((i:Int)<(M:Int))=false:=by simp;omega
      have d1':decide (i<M)=false:=by simpa using hlt
      clear hno
      go_wp2_with fail
      go_ret2;rw[HE.out];exact⟨HBel.out,.inr ⟨by decide,rfl⟩⟩
theorem aB6(w:World)(a:Option Addr)(n c:Nat):(binOp .eql 56 (.slice a n c) (.slice none 0 0)).run Tryz.prog w=.ok (.bool a.isNone) w:=Lib.run_eql_slice_nil w _ _ a n c 0 0 Tryz.underlying56
attribute [local go_sem] aB6
theorem rZ{l:List Int}(hb:∀ c∈l,0≤c∧c<256):Lib.byteCells (aH l).data.toList=aI l:=by
 unfold Lib.byteCells aI aH;simp only[List.map_map];refine List.map_congr_left fun c hc=>?_;have h:=hb c hc;have h8:(UInt8.ofNat c.toNat).toNat=c.toNat % 256:=UInt8.toNat_ofNat';simp only[Function.comp,h8];congr 1;omega
theorem qQ{P:Program}{w:World}{ops:Array Oper}{rest:List Oper}{o:Oper}{a:Act}{Q:Exit→Act→World→Prop}(hgd:o.guard=none)(d s:Operand)(dT sT:TypeId)
  (ho:o.op=.call {callee:=.builtin .copy,args:=#[d,s],argTypes:=#[dT,sT]}) (elem:TypeId) (hu:P.underlying dT=some (.slice elem)) (hsz:(P.info? elem).map (·.size)=some 1)
  (g dLen dCap:Nat) (l:List Int) (hb:∀ c∈l,0≤c∧c<256) (hd:a.eval d=.slice (some ⟨g,0,none⟩) dLen dCap) (hs:a.eval s=.string (aH l)) (hle:l.length≤dLen)
  (cur:Array Value) (t:TypeId) (hg:w.heap[g]?=some (.cells cur t (0,0))) (hfit:l.length≤cur.size)
  (h:∀ w',Only (·=g) w w'→RowAt w' g 0 (aI l)→Room w' g cur.size→w'.heap.size=w.heap.size→wpList P ops Q rest (a.put o.dst (goInt (aH l).size)) w'):wpList P ops Q (o::rest) a w:=by
 refine wpList_plain hgd fun K hK=>?_;have hrun:=Lib.run_copy_row_string (P:=P) w dT sT o.type elem g 0 dLen dCap (aH l) cur t hu hsz hg (by rw[bV];exact hle) (by rw[bV];omega)
 rw[rZ hb,bV]at hrun;simp only[List.take_zero,List.nil_append,Nat.zero_add]at hrun;have hlb:(aI l).length=l.length:=eA l;have hH:=setRow_heap w g cur (aI l++cur.toList.drop l.length).toArray t _ hg;unfold Oper.wp;simp[execOp,ho,resolve,invoke,builtin,hd,hs,hrun,Result.andThen];have hh:=h (w.setRow g (aI l++cur.toList.drop l.length).toArray) ⟨rfl,rfl,rfl,by simp[World.setRow],fun k hk hn=>setRow_other w g k _ hn⟩ ?_ ?_ (by simp[World.setRow])
 ·rw[bV]at hh;exact hK _ _ hh
 ·intro j v hv;have hj:j<(aI l).length:=(List.getElem?_eq_some_iff.1 hv).1;simp[World.cell?,hH,List.getElem?_append,hj,←hv]
 ·intro j hj;have:j<(aI l++cur.toList.drop l.length).length:=by simp[aI];omega
  simp only[World.cell?,World.frozen?,hH];simp[aI];omega
def iQ(l:List Int):List Value:=aI (l++List.replicate 8 77)
theorem sA(l:List Int)(k:Nat)(h1:l.length≤k)(h2:k<l.length+8):(iQ l)[k]?=some (.int .u8 77):=by
 rw[iQ,aI,List.getElem?_map,List.getElem?_append_right h1,List.getElem?_replicate,if_pos (by omega)];rfl
theorem nN(l:List Int)(k:Nat)(h:k<l.length):(iQ l)[k]?=some (.int .u8 l[k]):=by
 rw[iQ,aI,List.getElem?_map,List.getElem?_append_left h];simp[h]
theorem wW(l:List Int):(iQ l).length=l.length+8:=by simp[iQ,aI]
theorem aA4(l:List Int):(iQ l).take l.length=aI l:=by simp[iQ,aI]
theorem pV(l:List Int):((aH l).toList==(⟨#[]⟩:ByteArray).toList)=decide (l=[]):=by
 cases l with
 | nil=>simp[aH]
 | cons x l=>
  have:¬(aH (x::l)).toList=(⟨#[]⟩:ByteArray).toList:=by
   rw[ByteArray.toList_eq,ByteArray.toList_eq];simp[aH]
  simpa using this
theorem sB(l:List Int)(raw:Int)(w:World)(hl:l.length≤1000000000)(hv:∀ c∈l,0≤c∧c<256)(hn:¬(l=[]∧Int.tmod raw 2≠0)) :
  Calls Tryz.prog 30 #[.string (aH l),.int .i64 raw] w fun e w'=>∃ g,w.heap.size≤g∧g<w'.heap.size∧e=.returned (.slice (some ⟨g,0,none⟩) l.length (l.length+8))∧Below w.heap.size w w'∧RowAt w' g 0 (iQ l)∧Room w' g (l.length+8):=by
 have Hv:=aB hv;have hz:(aH l).size=l.length:=bV l;have hq:=pV l;have hsz1:(Tryz.prog.info? 5).map (·.size)=some 1:=by kernel_rfl
 have Hsz:=aB hsz1;clear hv hsz1;have key:(aH l).toList≠[]∨((aH l).toList=[]∧(Int.tmod raw 2 != 0)=false):=by
  by_cases h:l=[]
  ·right;refine⟨by rw[h];simp[aH],?_⟩
   by_cases h2:Int.tmod raw 2=0
   ·simpa using h2
   ·exact absurd ⟨h,h2⟩ hn
  ·left;intro hc;have:=pV l;rw[hc,decide_eq_false h]at this;simp at this
 clear hn hq;rcases key with hk|⟨hk,hk2⟩
 all_goals
  go_enter Tryz.func30,Tryz.ntmps30
  go_wp2_with (first
   | (at_make;refine bL _ rfl _ _ 56 rfl 5 (.int .u8 0) 1 1 Tryz.underlying56 Tryz.infoU8 _ _ _ _ (l.length+8) rfl rfl (by simp) (by simp) (by omega) (by omega) ?_)
   | (refine qQ rfl (.tmp 20) (.tmp 21) 56 9 rfl 5 Tryz.underlying56 Hsz.out w.heap.size (l.length+8) (l.length+8) l Hv.out rfl rfl (by omega) _ 5 (eD _ _) (by simp[size_madeCells]) ?_))
  intro w1 hon hrow hroom hsz;rw[size_madeCells]at hroom;have hb1:Below w.heap.size w w1:=((Below.refl _ _).alloc (Nat.le_refl _) _).trans (hon.below (by simp) (fun k hk=>by omega))
  have Hlen:=aB (wW l);clear hon;have hzz:w.heap.size<w1.heap.size:=by rw[hsz];simp
  clear hsz
  go_wp2
  go_loopw [7] (fun i wr=>∃ k:Nat,l.length≤k∧k≤l.length+8∧i=.int .i64 k∧Below w.heap.size w wr∧RowAt wr w.heap.size 0 ((iQ l).take k)∧Room wr w.heap.size (l.length+8)∧w.heap.size<wr.heap.size) (fun i _=>l.length+8-(intOf i).toNat)
  case atStart=>exact⟨l.length,Nat.le_refl _,by omega,rfl,hb1,by rw[aA4];exact hrow,hroom,hzz⟩
  case round=>
   obtain⟨k,hk1,hk2',rfl,hbel,hrw,hrm,hzr⟩:=hrel;clear hrow hroom hb1 hzz
   by_cases hlt:k<l.length+8
   ·obtain⟨hs,hf⟩:=hrm k hlt;obtain⟨u,hu⟩:=Option.isSome_iff_exists.1 hs
    go_wp2
    go_roundw
    case rel=>
     refine⟨k+1,by omega,by omega,by go_num,hbel.setCell (by simp) _,?_,hrm.setCell _ _,by simp[World.setCell];omega⟩
     have:=RowAt.snoc (X:=iQ l) (b:=w.heap.size) (off:=0) (w:=wr) (n:=k) (by rw[Hlen.out];exact hlt) hrw (.int .u8 77) (sA l k hk1 hlt) (by simpa using hs)
     simpa using this
    case measure=>simp[intOf];omega
   ·have hk:k=l.length+8:=by omega
    rw[List.take_of_length_le (by rw[Hlen.out];omega)]at hrw
    go_wp2
    go_ret;exact⟨w.heap.size,Nat.le_refl _,hzr,by simp,hbel,hrw,hrm⟩
theorem uL(raw:Int)(w:World)(hr:Int.tmod raw 2≠0):Calls Tryz.prog 30 #[.string (aH []),.int .i64 raw] w fun e w'=>e=.returned (.slice none 0 0)∧w'=w:=by
 have hq:(aH []).toList=[]:=by simp[aH]
 have hk2:(Int.tmod raw 2 != 0)=true:=by simpa using hr
 go_enter Tryz.func30,Tryz.ntmps30
 go_wp2
 go_ret;exact⟨rfl,rfl⟩
theorem qR(g:Nat)(l:List Int)(w:World)(hl:l.length≤1000000000)(hv:∀ c∈l,0≤c∧c<256)(hr:RowAt w g 0 (iQ l))(hm:Room w g (l.length+8)) :
  Calls Tryz.prog 33 #[.slice (some ⟨g,0,none⟩) l.length (l.length+8),.string (aH l)] w fun e w'=>e=.returned (.bool true)∧Only (·=g) w w':=by
 have hz:(aH l).size=l.length:=bV l;have hrb:RowAt w g 0 (aI l):=by
  intro j v hv;have hj:j<l.length:=by have:=(List.getElem?_eq_some_iff.1 hv).1;simpa [aI]using this
  refine hr j v ?_;rw[nN l j hj]
  simpa [aI,hj]using hv
 have hcv:=iS (cap:=l.length+8) hrb hv;clear hrb hv
 go_enter Tryz.func33,Tryz.ntmps33
 go_wp2
 go_loopw [7,8] (fun ok i wr=>∃ k:Nat,k≤l.length+8∧i=.int .i64 k∧ok=.bool true∧Only (·=g) w wr∧RowAt wr g k ((iQ l).drop k)∧Room wr g (l.length+8)) (fun _ i _=>l.length+8-(intOf i).toNat)
 case atStart=>exact⟨0,by omega,rfl,rfl,Only.refl _ _,by simpa using hr,hm⟩
 case round=>
  obtain⟨k,hk,rfl,rfl,hon,hrw,hrm⟩:=hrel;clear hcv hr hm
  by_cases hlt:k<l.length+8
  ·obtain⟨hs,hf⟩:=hrm k hlt;have hnext:RowAt (wr.setCell ⟨g,k,none⟩ (.int .u8 1)) g (k+1) ((iQ l).drop (k+1)):=by
    intro j v hv;rw[World.cell?_setCell_other _ _ _ _ (by simp;try omega)]
    have:=hrw (j+1) v (by rw[List.getElem?_drop]at hv ⊢;rw[←hv];congr 1;omega)
    rw[←this];congr 2;omega
   have Hn:=aB hnext;clear hnext
   by_cases hl2:k<l.length
   ·have hu:wr.cell? ⟨g,k,none⟩=some (.int .u8 l[k]):=hrw 0 _ (by rw[List.getElem?_drop];simpa using nN l k hl2)
    go_wp2
    go_roundw
    case rel=>exact⟨k+1,by omega,by go_num,rfl,hon.setCell rfl _,Hn.out,hrm.setCell _ _⟩
    case measure=>simp[intOf];omega
   ·have hu:wr.cell? ⟨g,k,none⟩=some (.int .u8 77):=hrw 0 _ (by rw[List.getElem?_drop];simpa using sA l k (by omega) hlt)
    go_wp2
    go_roundw
    case rel=>exact⟨k+1,by omega,by go_num,rfl,hon.setCell rfl _,Hn.out,hrm.setCell _ _⟩
    case measure=>simp[intOf];omega
  ·go_wp2
   go_ret;exact⟨rfl,hon⟩
theorem sC(v:Value)(w:World):Calls Tryz.prog 33 #[.slice none 0 0,v] w fun e w'=>e=.returned (.bool true)∧w'=w:=by
 go_enter Tryz.func33,Tryz.ntmps33
 go_wp2
 go_ret;exact⟨rfl,rfl⟩
end Go.Proofs.YtndlmgocldckfaaGreat
