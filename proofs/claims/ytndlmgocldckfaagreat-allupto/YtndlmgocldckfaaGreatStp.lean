import Derived.Test.YtndlmgocldckfaaGreatG02
import Derived.Test.YtndlmgocldckfaaGreatHap
import Derived.Deep.MidRow
import Derived.Deep.DeepCutAuto
import Derived.Laws.ResultCell
namespace Go.Proofs.YtndlmgocldckfaaGreat
open Go.RowKit
set_option linter.unusedVariables false
set_option linter.unusedSimpArgs false
set_option maxRecDepth 100000
set_option maxHeartbeats 4000000
def eN(ks:List (List Ins))(draws:List Int)(horizon:Int)(s:KS):KS×Option Rec×Int:=
 match s.q with
 | []=>(s,none,1)
 | e::_=>if horizon<e.time then (s,none,2)else
  match aV ks draws e s with
  | (s',told,why)=>if why=0 then (s',some ⟨e,told⟩,0)else (s,none,why)
def aQ(s:KS):List Value:=[.int .i64 s.clock,.int .i64 s.next,.int .i64 s.taken]++(List.range 32).map fun j=>.int .i64 (s.regs j)
theorem cB(s:KS):(aQ s).length=35:=by simp[aQ]
theorem qO(s:KS):∀ v∈aQ s,v.oneCell'=true:=by
 intro v hv;simp[aQ]at hv;rcases hv with rfl|rfl|rfl|⟨j,_,rfl⟩<;>rfl
theorem zO(s:KS)(j:Nat)(v:Value):(aQ s)[j]?=some v→(j=0∧v=.int .i64 s.clock)∨(j=1∧v=.int .i64 s.next)∨(j=2∧v=.int .i64 s.taken)∨∃ i,i<32∧j=3+i∧v=.int .i64 (s.regs i):=by
 intro h
 by_cases h0:j=0
 ·subst h0;simp[aQ]at h;exact .inl ⟨rfl,h.symm⟩
 by_cases h1:j=1
 ·subst h1;simp[aQ]at h;exact .inr (.inl ⟨rfl,h.symm⟩)
 by_cases h2:j=2
 ·subst h2;simp[aQ]at h;exact .inr (.inr (.inl ⟨rfl,h.symm⟩))
 have hl:j<35:=by have:=(List.getElem?_eq_some_iff.1 h).1;rwa [cB]at this
 refine .inr (.inr (.inr ⟨j-3,by omega,by omega,?_⟩))
 rw[aQ,List.getElem?_append_right (by simp;omega)]at h
 simp at h;obtain⟨a,ha,rfl⟩:=h;rw[List.getElem?_range (by omega)]at ha
 simp at ha;rw[←ha]
theorem aAx(s:KS)(i:Nat)(hi:i<32):(aQ s)[3+i]?=some (.int .i64 (s.regs i)):=by
 rw[aQ,List.getElem?_append_right (by simp)]
 simp[hi]
section
variable {R : Nat → Prop} {base : Nat} {w w' : World} {kb qb mb : Nat} {ov : Value} {ents : Int} {ks : List (List Ins)} {draws : List Int} {s s1 : KS}
theorem KerP.range(h:KerP R base w kb qb mb ov ents ks draws s):w.rangeAt kb 4 (aQ s):=by
 intro j v hv;rcases zO s j v hv with⟨rfl,rfl⟩|⟨rfl,rfl⟩|⟨rfl,rfl⟩|⟨i,hi,rfl,rfl⟩
 ·exact h.c4
 ·exact h.c5
 ·exact h.c6
 ·have:=h.regs i hi;rw[←this];congr 2;omega
theorem gQ(b:Nat):∀ (vs:List Value) (o:Nat) (w:World),Only (·=b) w (w.setCells b o vs)
 | [],_,w=>Only.refl _ _
 | v::vs,o,w=>(Only.setCell (S:=(·=b)) (Only.refl _ _) (p:=⟨b,o,none⟩) rfl v).trans (gQ b vs (o+1) _)
theorem KerP.setState(h:KerP R base w kb qb mb ov ents ks draws s1):KerP R base (w.setCells kb 4 (aQ s)) kb qb mb ov ents ks draws {s with q:=s1.q}:=by
 have hon:=gQ kb (aQ s) 4 w;have hR:=fun b hb=>(h.far b hb).1;obtain⟨kv,hk1,hk2⟩:=h.kinds;obtain⟨dv,hd1,hd2⟩:=h.draw;have hth:w.there kb 4 (aQ s).length:=fun j hj=>h.room (4+j) (by rw[cB]at hj;omega)
 have hsame:=World.rangeAt_setCells_same w kb 4 (aQ s) hth;have oth:∀ i,i<4→(w.setCells kb 4 (aQ s)).cell? ⟨kb,i,none⟩=w.cell? ⟨kb,i,none⟩:=fun i hi=>World.cell?_setCells_out kb _ _ _ _ (fun _ _=>.inl hi);have hr:w.there kb 0 39:=fun j hj=>by have:=h.room j hj;simpa using this
 have hroom:=World.there_setCells hr kb 4 (aQ s);have g0:(aQ s)[0]?=some (.int .i64 s.clock):=by simp[aQ]
 have g1:(aQ s)[1]?=some (.int .i64 s.next):=by simp[aQ]
 have g2:(aQ s)[2]?=some (.int .i64 s.taken):=by simp[aQ]
 have gr:=aAx s;generalize w.setCells kb 4 (aQ s)=W at hon hsame oth hroom ⊢;generalize aQ s=L at hsame g0 g1 g2 gr;refine⟨(oth 0 (by omega)).trans h.c0,⟨kv,(oth 1 (by omega)).trans hk1,hk2.only hon hR⟩,⟨dv,(oth 2 (by omega)).trans hd1,hd2.only hon hR⟩,(oth 3 (by omega)).trans h.c3,hsame 0 _ g0,hsame 1 _ g1,hsame 2 _ g2,?_,?_,h.que.only hon (fun b hb hc=>by subst hc;exact h.kq hb),h.kq,h.far,fun b hb=>Nat.lt_of_lt_of_le (h.rlt b hb) hon.size⟩
 ·intro j hj;have:=hsame (3+j) _ (gr j hj);rw[←this];congr 2;omega
 ·intro j hj;have:=hroom j hj
  simpa using this
end
theorem Tryz.sizeS:(Tryz.prog.info? 112).map (·.size)=some 35:=by kernel_rfl
theorem bR{w:World}{base:Nat}{e:TypeId}{size:Nat}{v:Value}{n:Nat}{xs:List Value}(h:w.ownsRow base e size v n xs):∃ sa sc,v=.slice sa n sc:=by
 obtain⟨_,⟨rfl,rfl⟩|⟨g,cap,cur,rfl,_⟩⟩:=h
 ·exact⟨_,_,rfl⟩
 ·exact⟨_,_,rfl⟩
structure iY(R:Nat→Prop)(kb qb mb sqb smb:Nat)(ov sov:Value):Prop where
 ks:∀ b,bG kb qb mb ov b→¬dV sqb smb sov b
 rs:∀ b,R b→¬dV sqb smb sov b
def gZ(e:Ev)(tv:Value):Value:=.agg #[.int .i64 e.number,.int .i64 e.time,.int .i64 e.kind,.int .i64 e.entity,tv]
def qY:Value:=.agg #[.int .i64 0,.int .i64 0,.int .i64 0,.int .i64 0,.slice none 0 0]
def qZ(kb qb mb sqb smb:Nat)(ov sov:Value)(b:Nat):Prop:=bG kb qb mb ov b∨dV sqb smb sov b
def tX(R:Nat→Prop)(base base':Nat)(w:World)(kb qb mb sqb smb:Nat)(ov sov:Value)(ents:Int)(ks:List (List Ins))(draws:List Int)(s:KS)(e:Ev)(F:KS×List Int×Int)(e':Ending)(w':World):Prop:=
 ∃ ov' sov' qx',Only (qZ kb qb mb sqb smb ov sov) w w'∧Moved w ov ov'∧Moved w sov sov'∧QueP base' w' sqb smb sov' qx'∧iY R kb qb mb sqb smb ov' sov' ∧
  ((F.2.2≠0∧e'=.returned (.tuple #[qY,.int .i64 F.2.2])∧KerP R base w' kb qb mb ov' ents ks draws s) ∨
   (F.2.2=0∧∃ tv,e'=.returned (.tuple #[gZ e tv,.int .i64 0])∧KerP R base w' kb qb mb ov' ents ks draws F.1∧KOk ents ks.length draws F.1 ∧
     w'.ownsRow w.heap.size 3 1 tv F.2.1.length (ints F.2.1)∧∀ b,some b=tv.ownBlock→¬qZ kb qb mb sqb smb ov' sov' b))
def lJ(w:World)(b:Nat)(v0 v1 v2 v3 v4:Value):World:=((((w.setCell ⟨b,0,none⟩ v0).setCell ⟨b,1,none⟩ v1).setCell ⟨b,2,none⟩ v2).setCell ⟨b,3,none⟩ v3).setCell ⟨b,4,none⟩ v4
theorem iO(w:World)(b:Nat)(v0 v1 v2 v3 v4:Value):Only (·=b) w (lJ w b v0 v1 v2 v3 v4):=(((((Only.refl _ _).setCell (S:=(·=b)) (p:=⟨b,0,none⟩) rfl _).setCell (p:=⟨b,1,none⟩) rfl _).setCell (p:=⟨b,2,none⟩) rfl _).setCell (p:=⟨b,3,none⟩) rfl _).setCell (p:=⟨b,4,none⟩) rfl _
theorem jS{w:World}{b:Nat}(h:Room w b 5)(v0 v1 v2 v3 v4:Value):(lJ w b v0 v1 v2 v3 v4).cell? ⟨b,0,none⟩=some v0∧(lJ w b v0 v1 v2 v3 v4).cell? ⟨b,1,none⟩=some v1∧(lJ w b v0 v1 v2 v3 v4).cell? ⟨b,2,none⟩=some v2∧(lJ w b v0 v1 v2 v3 v4).cell? ⟨b,3,none⟩=some v3∧(lJ w b v0 v1 v2 v3 v4).cell? ⟨b,4,none⟩=some v4:=by
 unfold lJ;refine⟨?_,?_,?_,?_,?_⟩
 ·rw[World.cell?_setCell_other _ _ _ _ (by simp),World.cell?_setCell_other _ _ _ _ (by simp),World.cell?_setCell_other _ _ _ _ (by simp),World.cell?_setCell_other _ _ _ _ (by simp)]
  exact World.cell?_setCell_same' _ _ _ (h 0 (by omega)).1
 ·rw[World.cell?_setCell_other _ _ _ _ (by simp),World.cell?_setCell_other _ _ _ _ (by simp),World.cell?_setCell_other _ _ _ _ (by simp)]
  exact World.cell?_setCell_same' _ _ _ ((h.setCell _ _) 1 (by omega)).1
 ·rw[World.cell?_setCell_other _ _ _ _ (by simp),World.cell?_setCell_other _ _ _ _ (by simp)]
  exact World.cell?_setCell_same' _ _ _ (((h.setCell _ _).setCell _ _) 2 (by omega)).1
 ·rw[World.cell?_setCell_other _ _ _ _ (by simp)]
  exact World.cell?_setCell_same' _ _ _ ((((h.setCell _ _).setCell _ _).setCell _ _) 3 (by omega)).1
 ·exact World.cell?_setCell_same' _ _ _ (((((h.setCell _ _).setCell _ _).setCell _ _).setCell _ _) 4 (by omega)).1
theorem aF2{R:Nat→Prop}{base base':Nat}(kb qb mb sqb smb:Nat)(ov sov:Value)(ents:Int)(ks:List (List Ins))(draws:List Int)(s:KS)(qx:List Ev)(horizon:Int)(e:Ev)(l:List Ev)(w:World)(h:KerP R base w kb qb mb ov ents ks draws s)(hq:s.q=e::l)(hz:¬horizon<e.time)
  (hs:QueP base' w sqb smb sov qx) (hbes:iY R kb qb mb sqb smb ov sov) (hbase:base≤w.heap.size) (hbase':base'≤w.heap.size) (hok:KOk ents ks.length draws s) (hents:ents≤8) (hk8:ks.length≤8)
  (hcode:∀ l∈ks,l.length≤16∧∀ x∈l,aX ents ks.length x.op x.a x.b x.c=true) (hd:∀ d∈draws,0≤d∧d≤1000000000) :
  Calls Tryz.prog 116 #[.pointer (some ⟨kb,0,none⟩),.int .i64 horizon,.pointer (some ⟨sqb,0,none⟩)] w
   (tX R base base' w kb qb mb sqb smb ov sov ents ks draws s e (aV ks draws e s)):=by
 have H:=aB h;have h3:=h.c3;have hkl:=h.klt;have HQ:Hid (QueP base w qb mb ov (e::l)):=by rw[←hq];exact h.que
 have HQ2:=aB h.que;have HS:=aB hs;have HB:=aB hbes;have Hok:=aB hok;have Hhz:Hid (∀ x∈s.q,e.time≤x.time):=by
  intro x hx;have hso:=h.que.sorted;rw[hq]at hso hx;rcases List.mem_cons.1 hx with rfl|hx
  ·exact Int.le_refl _
  ·have:=(List.pairwise_cons.1 hso).1 x hx;rw[iT,iU]at this;simp only[Ev.mom]at this;omega
 have Hq:=aB hq;have hz':decide (horizon<e.time)=false:=by simpa using hz
 obtain⟨s',told,why,hF⟩:∃ s' told why,aV ks draws e s=(s',told,why):=⟨_,_,_,rfl⟩;rw[hF];have HF:=aB hF;clear h hs hbes hok hq hF
 go_enter Tryz.func116,Tryz.ntmps116
 go_upto_region 6 with (go_at_call 126;refine(qF qb mb ov e l _ (HQ.out.below ((Below.refl _ _).alloc (Nat.le_refl _) _))).mono ?_;rintro e' w1 ⟨rfl,hb1⟩;simp only[eU])
 have hz1:=hb1.size;rw[World.size_alloc]at hz1;have hbw:Below w.heap.size w w1:=((Below.refl _ _).alloc (Nat.le_refl _) _).trans (hb1.mono (by simp))
 have rc:w1.heap[w.heap.size]?=some (.cells #[.int .i64 0,.int .i64 0,.int .i64 0,.int .i64 0,.slice none 0 0] 46 (0,0)):=(hb1.block w.heap.size (by simp)).trans (eD _ _)
 obtain⟨W1,hW1⟩:∃ W1,W1=w1.alloc (.cells #[.int .i64 e.number,.int .i64 e.time,.int .i64 e.kind,.int .i64 e.entity] 171):=⟨_,rfl⟩;have hbW:Below w.heap.size w W1:=by rw[hW1];exact hbw.alloc (by omega) _
 have rcW:W1.heap[w.heap.size]?=some (.cells #[.int .i64 0,.int .i64 0,.int .i64 0,.int .i64 0,.slice none 0 0] 46 (0,0)):=by rw[hW1,Below.heap_alloc _ _ _ (by omega)];exact rc
 have evW:W1.heap[w1.heap.size]?=some (.cells #[.int .i64 e.number,.int .i64 e.time,.int .i64 e.kind,.int .i64 e.entity] 171 (0,0)):=by rw[hW1];exact eD _ _
 have hzW:W1.heap.size=w1.heap.size+1:=by rw[hW1];simp
 rw[←hW1];have HbW:=aB hbW;have HrcW:=aB rcW;have HevW:=aB evW;have g3:=aA hbW h3 hkl;have hrg:W1.rangeAt kb 4 (aQ s):=(H.out.below hbW).range;have hrg2:=(World.rangeAt_alloc hrg (.cells (madeCells #[.int .i64 0] 35) 112));have HzW:=aB hzW;clear hb1 hbw rc hW1 rcW evW hbW hzW
 go_upto_region 7 with (first
  | (refine wpList_load_mid rfl 112 (.tmp 31) rfl kb 4 rfl (aQ s) _ hrg Tryz.underlying112 rfl (by rw[cB];exact Tryz.sizeS) ?_)
  | (refine wpList_store_mid rfl 112 (.tmp 10) (.tmp 32) rfl W1.heap.size 0 (aQ s).toArray rfl rfl ?_ (by rw[List.size_toArray,cB];exact Tryz.sizeS) (all_oneCell_toArray (qO s)) ?_))
 ·intro j hj;rw[cB]at hj;rw[World.cell?_alloc_at _ _ _ _ (by omega),World.frozen?_alloc_at _ _ _ _ (by omega)]
  exact⟨by simp;omega,rfl⟩
 have hbS:Below W1.heap.size W1 (W1.alloc (.cells #[.int .i64 0,.int .i64 0,.int .i64 0,.int .i64 0,.int .i64 0,.int .i64 0,.int .i64 0,.int .i64 0,.int .i64 0,.int .i64 0,.int .i64 0,.int .i64 0,.int .i64 0,.int .i64 0,.int .i64 0,.int .i64 0,.int .i64 0,.int .i64 0,.int .i64 0,.int .i64 0,.int .i64 0,.int .i64 0,.int .i64 0,.int .i64 0,.int .i64 0,.int .i64 0,.int .i64 0,.int .i64 0,.int .i64 0,.int .i64 0,.int .i64 0,.int .i64 0,.int .i64 0,.int .i64 0,.int .i64 0] 112)):=(Below.refl _ _).alloc (Nat.le_refl _) _
 have hth2:(W1.alloc (.cells #[.int .i64 0,.int .i64 0,.int .i64 0,.int .i64 0,.int .i64 0,.int .i64 0,.int .i64 0,.int .i64 0,.int .i64 0,.int .i64 0,.int .i64 0,.int .i64 0,.int .i64 0,.int .i64 0,.int .i64 0,.int .i64 0,.int .i64 0,.int .i64 0,.int .i64 0,.int .i64 0,.int .i64 0,.int .i64 0,.int .i64 0,.int .i64 0,.int .i64 0,.int .i64 0,.int .i64 0,.int .i64 0,.int .i64 0,.int .i64 0,.int .i64 0,.int .i64 0,.int .i64 0,.int .i64 0,.int .i64 0] 112)).there W1.heap.size 0 (aQ s).length:=by
  intro j hj;rw[cB]at hj;rw[World.cell?_alloc_at _ _ _ _ (by omega),World.frozen?_alloc_at _ _ _ _ (by omega)]
  exact⟨by simp;omega,rfl⟩
 have hzS:(W1.alloc (.cells #[.int .i64 0,.int .i64 0,.int .i64 0,.int .i64 0,.int .i64 0,.int .i64 0,.int .i64 0,.int .i64 0,.int .i64 0,.int .i64 0,.int .i64 0,.int .i64 0,.int .i64 0,.int .i64 0,.int .i64 0,.int .i64 0,.int .i64 0,.int .i64 0,.int .i64 0,.int .i64 0,.int .i64 0,.int .i64 0,.int .i64 0,.int .i64 0,.int .i64 0,.int .i64 0,.int .i64 0,.int .i64 0,.int .i64 0,.int .i64 0,.int .i64 0,.int .i64 0,.int .i64 0,.int .i64 0,.int .i64 0] 112)).heap.size=W1.heap.size+1:=by simp
 generalize W1.alloc (.cells #[.int .i64 0,.int .i64 0,.int .i64 0,.int .i64 0,.int .i64 0,.int .i64 0,.int .i64 0,.int .i64 0,.int .i64 0,.int .i64 0,.int .i64 0,.int .i64 0,.int .i64 0,.int .i64 0,.int .i64 0,.int .i64 0,.int .i64 0,.int .i64 0,.int .i64 0,.int .i64 0,.int .i64 0,.int .i64 0,.int .i64 0,.int .i64 0,.int .i64 0,.int .i64 0,.int .i64 0,.int .i64 0,.int .i64 0,.int .i64 0,.int .i64 0,.int .i64 0,.int .i64 0,.int .i64 0,.int .i64 0] 112)=WS at hbS hth2 hzS ⊢;have hsv:=World.rangeAt_setCells_same WS W1.heap.size 0 (aQ s) hth2;have hoS:=gQ W1.heap.size (aQ s) 0 WS;generalize WS.setCells W1.heap.size 0 (aQ s)=W2 at hsv hoS ⊢;have hb2:Below W1.heap.size W1 W2:=hbS.trans (hoS.below (by omega) (fun k hk hc=>by omega))
 have hz2:W1.heap.size<W2.heap.size:=by have:=hoS.size;omega
 have Hsv:=aB hsv;have Hb2:=aB hb2;have k3:=aA hb2 g3 (by have:=HbW.out.size;omega)
 have HK2:=aB ((H.out.below HbW.out).below hb2);have HS2:=aB ((HS.out.below HbW.out).below hb2);clear hth2 hbS hzS hoS hsv hb2 hrg g3 hrg2;have hzw1:=HbW.out.size;have hzr:=HzW.out;have Hnq:Hid (∀ b,w.heap.size≤b→¬dV sqb smb sov b):=fun b hb hc=>by have:=HS.out.lt b hc;omega
 have ev2:∀ (j:Nat) (v:Value),#[Value.int .i64 e.number,.int .i64 e.time,.int .i64 e.kind,.int .i64 e.entity][j]?=some v→W2.cell? ⟨w1.heap.size,j,none⟩=some v:=by
  intro j v hv;have hb:W2.heap[w1.heap.size]?=_:=(Hb2.out.block w1.heap.size (by omega)).trans HevW.out
  simp only[World.cell?,hb];exact hv
 have m0:=ev2 0 _ rfl;have m1:=ev2 1 _ rfl;have m2:=ev2 2 _ rfl;have m3:=ev2 3 _ rfl;have Hev:=aB ev2;clear ev2 hzr;have HHap:Hid (∀ w3,Only (dV sqb smb sov) W2 w3→Calls Tryz.prog 128 #[.pointer (some ⟨kb,0,none⟩),.agg #[.int .i64 e.number,.int .i64 e.time,.int .i64 e.kind,.int .i64 e.entity]] w3
   fun e' w'=>∃ tv ov',e'=.returned (.tuple #[tv,.int .i64 (aV ks draws e s).2.2])∧Only (bG kb qb mb ov) w3 w'∧Moved w3 ov ov'∧KerP R base w' kb qb mb ov' ents ks draws (aV ks draws e s).1∧KOk ents ks.length draws (aV ks draws e s).1 ∧
    w'.ownsRow w3.heap.size 3 1 tv (aV ks draws e s).2.1.length (ints (aV ks draws e s).2.1)∧(∀ b,some b=tv.ownBlock→¬bG kb qb mb ov' b)):=fun w3 ho3=>
  aA1 kb qb mb ov ents ks draws s e w3 (HK2.out.only ho3 (fun b hb hc=>HB.out.ks b hb hc) (fun b hb hc=>HB.out.rs b hb hc)) (by have:=ho3.size;omega) Hok.out (by rw[Hq.out];simp) Hhz.out hents hk8 hcode hd
 clear hcode hd;rw[HF.out]at HHap;simp only at HHap
 go_upto_region 9 with (first
  | (go_at_call 127;refine(sW sqb smb qb mb sov ov qx s.q _ HS2.out HK2.out.que (by omega) (fun b hb hc=>HB.out.ks b (.inr hc) hb)).mono ?_;rintro e' w3 ⟨sov3,rfl,ho3,hs3,hm3⟩;(have n0:=ho3.at m0 (Hnq.out _ (by omega)));(have n1:=ho3.at m1 (Hnq.out _ (by omega)));(have n2:=ho3.at m2 (Hnq.out _ (by omega)));(have n3:=ho3.at m3 (Hnq.out _ (by omega))))
  | (go_at_call 128;refine(HHap.out w3 ho3).mono ?_;rintro e' w4 ⟨tv,ov4,rfl,ho4,hm4,hk4,hok4,hown4,hsep4⟩;obtain⟨tsa,tsc,rfl⟩:=bR hown4)
  | fail)
 have hO24:Only (qZ kb qb mb sqb smb ov sov) W2 w4:=(ho3.mono (fun k _ hk=>.inr hk)).trans (ho4.mono (fun k _ hk=>.inl hk));have hO4:Only (qZ kb qb mb sqb smb ov sov) w w4:=((Only.new HbW.out).trans (Only.new (Hb2.out.mono (by omega)))).trans hO24
 have hz3:=ho3.size;have hz4:=ho4.size;have hmv3:Moved w sov sov3:=by
  rcases hm3 with e|⟨g,e,hg⟩
  ·exact .inl e
  ·exact .inr ⟨g,e,by omega⟩
 have hmv4:Moved w ov ov4:=by
  rcases hm4 with e|⟨g,e,hg⟩
  ·exact .inl e
  ·exact .inr ⟨g,e,by omega⟩
 have hs4:QueP base' w4 sqb smb sov3 s.q:=hs3.only ho4 (fun b hb hc=>by
  rcases hb with rfl|rfl|hb
  ·exact HB.out.ks _ hc (.inl rfl)
  ·exact HB.out.ks _ hc (.inr (.inl rfl))
  ·rcases hm3 with e|⟨g,e,hg⟩
   ·exact HB.out.ks b hc (.inr (.inr (hb.trans e)))
   ·rw[e]at hb;simp at hb;subst hb;have:=H.out.lt _ hc;omega)
 have hbes4:iY R kb qb mb sqb smb ov4 sov3:=by
  have key:∀ b,b<w.heap.size→¬dV sqb smb sov b→¬dV sqb smb sov3 b:=by
   rintro b hb hn (rfl|rfl|hc)
   ·exact hn (.inl rfl)
   ·exact hn (.inr (.inl rfl))
   ·rcases hmv3 with e|⟨g,e,hg⟩
    ·exact hn (.inr (.inr (hc.trans e)))
    ·rw[e]at hc;simp at hc;omega
  refine⟨fun b hb hc=>?_,fun b hb hc=>key b (H.out.rlt b hb) (HB.out.rs b hb) hc⟩;have hbl3:b<w3.heap.size:=hs3.lt b hc;have hold:bG kb qb mb ov b:=by
   rcases hb with rfl|rfl|rfl|hb
   ·exact .inl rfl
   ·exact .inr (.inl rfl)
   ·exact .inr (.inr (.inl rfl))
   ·rcases hm4 with e|⟨g,e,hg⟩
    ·exact .inr (.inr (.inr (hb.trans e)))
    ·rw[e]at hb;simp at hb;omega
  exact key b (H.out.lt b hold) (HB.out.ks b hold) hc
 have HO4:=aB hO4;have Hmv3:=aB hmv3;have Hmv4:=aB hmv4;have Hs4:=aB hs4;have Hbes4:=aB hbes4;have Hk4:=aB hk4;have Hok4:=aB hok4;have Hown4:=aB hown4;have Hsep4:=aB hsep4;have Hnb:Hid (∀ b,w.heap.size≤b→¬qZ kb qb mb sqb smb ov sov b):=fun b hb hc=>by
  rcases hc with hc|hc
  ·have:=H.out.lt b hc;omega
  ·exact Hnq.out b hb hc
 have HO24:=aB hO24;clear hO4 hmv3 hmv4 hs4 hbes4 hk4 hok4 hown4 hsep4 hO24 n0 n1 n2 n3 m0 m1 m2 m3 k3;have hrc2:W2.heap[w.heap.size]?=some (.cells #[.int .i64 0,.int .i64 0,.int .i64 0,.int .i64 0,.slice none 0 0] 46 (0,0)):=(Hb2.out.block _ (by have:=HzW.out;omega)).trans HrcW.out
 have hrc4:w4.heap[w.heap.size]?=some (.cells #[.int .i64 0,.int .i64 0,.int .i64 0,.int .i64 0,.slice none 0 0] 46 (0,0)):=(HO24.out.block _ (by omega) (Hnb.out _ (Nat.le_refl _))).trans hrc2
 have Hrc4:=aB hrc4;clear hrc2 hrc4
 by_cases hw0:why=0
 ·subst hw0;have m:=fun j v hv=>HO24.out.at (Hev.out j v hv) (Hnb.out _ (by have:=HzW.out;omega))
  have m0:=m 0 _ rfl;have m1:=m 1 _ rfl;have m2:=m 2 _ rfl;have m3:=m 3 _ rfl;have rr:∀ (j:Nat) (v:Value),#[Value.int .i64 0,.int .i64 0,.int .i64 0,.int .i64 0,.slice none 0 0][j]?=some v→w4.cell? ⟨w.heap.size,j,none⟩=some v∧w4.frozen? ⟨w.heap.size,j,none⟩=false:=by
   intro j v hv;simp only[World.cell?,World.frozen?,Hrc4.out];exact⟨hv,rfl⟩
  obtain⟨z0,y0⟩:=rr 0 _ rfl;obtain⟨z1,y1⟩:=rr 1 _ rfl;obtain⟨z2,y2⟩:=rr 2 _ rfl;obtain⟨z3,y3⟩:=rr 3 _ rfl;obtain⟨z4,y4⟩:=rr 4 _ rfl;clear rr m;have hne:w1.heap.size≠w.heap.size:=by omega
  go_wp2_with fail
  have hroom:Room w4 w.heap.size 5:=by
   intro j hj;have:j=0∨j=1∨j=2∨j=3∨j=4:=by omega
   rcases this with rfl|rfl|rfl|rfl|rfl
   ·exact⟨by rw[z0];rfl,y0⟩
   ·exact⟨by rw[z1];rfl,y1⟩
   ·exact⟨by rw[z2];rfl,y2⟩
   ·exact⟨by rw[z3];rfl,y3⟩
   ·exact⟨by rw[z4];rfl,y4⟩
  obtain⟨t0,t1,t2,t3,t4⟩:=jS hroom (.int .i64 e.number) (.int .i64 e.time) (.int .i64 e.kind) (.int .i64 e.entity) (.slice tsa told.length tsc);have hoZ:=iO w4 w.heap.size (.int .i64 e.number) (.int .i64 e.time) (.int .i64 e.kind) (.int .i64 e.entity) (.slice tsa told.length tsc);obtain⟨WZ,hWZ⟩:∃ WZ,WZ=lJ w4 w.heap.size (.int .i64 e.number) (.int .i64 e.time) (.int .i64 e.kind) (.int .i64 e.entity) (.slice tsa told.length tsc):=⟨_,rfl⟩;have hWZ':=hWZ;unfold lJ at hWZ';rw[←hWZ]at t0 t1 t2 t3 t4 hoZ;rw[←hWZ'];clear hWZ hWZ' z0 z1 z2 z3 z4 y0 y1 y2 y3 y4 m0 m1 m2 m3;have hzZ:=hoZ.size;refine bodyPost_ret (v:=.tuple #[.agg #[.int .i64 e.number,.int .i64 e.time,.int .i64 e.kind,.int .i64 e.entity,.slice tsa told.length tsc],.int .i64 0]) ?_ rfl ?_
  ·rw[results_cell_tmp rfl];simp[go_sem,t0,t1,t2,t3,t4]
  have hnK:∀ b,bG kb qb mb ov4 b→¬b=w.heap.size:=by
   rintro b hb rfl;rcases hb with hb|hb|hb|hb
   ·omega
   ·have:=H.out.lt qb (.inr (.inl rfl));omega
   ·have:=H.out.lt mb (.inr (.inr (.inl rfl)));omega
   ·rcases hm4 with e|⟨g,e,hg⟩
    ·have:=H.out.lt w.heap.size (.inr (.inr (.inr (hb.trans e))));omega
    ·rw[e]at hb;simp at hb;omega
  have hnS:∀ b,dV sqb smb sov3 b→¬b=w.heap.size:=by
   rintro b hb rfl;rcases hb with hb|hb|hb
   ·have:=HS.out.lt sqb (.inl rfl);omega
   ·have:=HS.out.lt smb (.inr (.inl rfl));omega
   ·rcases hm3 with e|⟨g,e,hg⟩
    ·have:=HS.out.lt w.heap.size (.inr (.inr (hb.trans e)));omega
    ·rw[e]at hb;simp at hb;omega
  have htv:∀ b,some b=(Value.slice tsa told.length tsc).ownBlock→w3.heap.size≤b∧b<w4.heap.size:=fun b hb=>Hown4.out.lt b hb.symm;unfold tX;refine⟨ov4,sov3,s.q,?_,Hmv4.out,Hmv3.out,Hs4.out.only hoZ hnS,Hbes4.out,.inr ⟨rfl,.slice tsa told.length tsc,rfl,Hk4.out.only hoZ hnK (fun b hb hc=>by have:=H.out.rlt b hb;omega),Hok4.out,?_,?_⟩⟩
  ·refine⟨hoZ.os.trans HO4.out.os,hoZ.tape.trans HO4.out.tape,hoZ.output.trans HO4.out.output,by have:=HO4.out.size;omega,?_⟩
   intro k hk hn;rw[hoZ.block k (by have:=HO4.out.size;omega) (by omega),HO4.out.block k hk hn]
  ·obtain⟨h1,h2⟩:=bT Hown4.out hoZ (fun b hb hc=>by have:=htv b hb;omega)
   refine⟨h1,?_⟩;rcases h2 with h2|⟨g,cap,cur,hv,hg,r⟩
   ·exact .inl h2
   ·exact .inr ⟨g,cap,cur,hv,by omega,r⟩
  ·intro b hb hc;rcases hc with hc|hc
   ·exact Hsep4.out b hb hc
   ·have:=htv b hb;have:=hs3.lt b hc;omega
 ·have hw1:(why != 0)=true:=by simpa using hw0
  have c3:=Hk4.out.c3;have hsv4:w4.rangeAt W1.heap.size 0 (aQ s):=fun j v hv=>HO24.out.at (Hsv.out j v hv) (Hnb.out _ (by have:=HzW.out;omega))
  have hth4:w4.there kb 4 (aQ s).length:=fun j hj=>Hk4.out.room (4+j) (by rw[cB]at hj;omega)
  go_upto_region 11 with (first
   | (refine wpList_load_mid rfl 112 (.tmp 10) rfl W1.heap.size 0 rfl (aQ s) _ hsv4 Tryz.underlying112 rfl (by rw[cB];exact Tryz.sizeS) ?_)
   | (refine wpList_store_mid rfl 112 (.tmp 50) (.tmp 48) rfl kb 4 (aQ s).toArray rfl rfl (by rw[List.size_toArray];exact hth4) (by rw[List.size_toArray,cB];exact Tryz.sizeS) (all_oneCell_toArray (qO s)) ?_))
  have hk5:=Hk4.out.setState (s:=s);have ho5:=gQ kb (aQ s) 4 w4;generalize w4.setCells kb 4 (aQ s)=W5 at hk5 ho5 ⊢;have hz5:=ho5.size;have hs5:QueP base' W5 sqb smb sov3 s.q:=Hs4.out.only ho5 (fun b hb hc=>by subst hc;exact Hbes4.out.ks b (.inl rfl) hb)
  have c35:=hk5.c3;have Hk5:=aB hk5;have Hs5:=aB hs5;have Ho5:=aB ho5;have hrc5:W5.heap[w.heap.size]?=some (.cells #[.int .i64 0,.int .i64 0,.int .i64 0,.int .i64 0,.slice none 0 0] 46 (0,0)):=(ho5.block _ (by omega) (by omega)).trans Hrc4.out
  have Hrc5:=aB hrc5;have HBec:Hid (Calls Tryz.prog 127 #[.pointer (some ⟨qb,0,none⟩),.pointer (some ⟨sqb,0,none⟩)] W5 fun e w'=>∃ ov2,e=.returned (.tuple #[])∧Only (dV qb mb ov4) W5 w'∧QueP base w' qb mb ov2 s.q∧Moved W5 ov4 ov2):=
   sW qb mb sqb smb ov4 sov3 s'.q s.q W5 hk5.que hs5 (by omega) (fun b hb hc=>Hbes4.out.ks b (.inr hb) hc)
  have Hn6:Hid (¬dV qb mb ov4 w.heap.size):=by
   intro hc;rcases hc with hc|hc|hc
   ·have:=H.out.lt qb (.inr (.inl rfl));omega
   ·have:=H.out.lt mb (.inr (.inr (.inl rfl)));omega
   ·rcases hm4 with e|⟨g,e,hg⟩
    ·have:=H.out.lt w.heap.size (.inr (.inr (.inr (hc.trans e))));omega
    ·rw[e]at hc;simp at hc;omega
  clear hk5 hs5 ho5 hrc5 c3 hsv4 hth4
  go_upto_region 12 with (go_at_call 127;refine HBec.out.mono ?_;rintro e' w6 ⟨ov6,rfl,ho6,hq6,hm6⟩)
  have hz6:=ho6.size;have rr:∀ (j:Nat) (v:Value),#[Value.int .i64 0,.int .i64 0,.int .i64 0,.int .i64 0,.slice none 0 0][j]?=some v→w6.cell? ⟨w.heap.size,j,none⟩=some v∧w6.frozen? ⟨w.heap.size,j,none⟩=false:=by
   intro j v hv;have hb:w6.heap[w.heap.size]?=_:=(ho6.block w.heap.size (by omega) Hn6.out).trans Hrc5.out
   simp only[World.cell?,World.frozen?,hb];exact⟨hv,rfl⟩
  obtain⟨z0,y0⟩:=rr 0 _ rfl;obtain⟨z1,y1⟩:=rr 1 _ rfl;obtain⟨z2,y2⟩:=rr 2 _ rfl;obtain⟨z3,y3⟩:=rr 3 _ rfl;obtain⟨z4,y4⟩:=rr 4 _ rfl;clear rr;have Ho6:=aB ho6;have Hq6:=aB hq6;have Hm6:=aB hm6;clear ho6 hq6 hm6
  go_wp2_with fail
  have hroom:Room w6 w.heap.size 5:=by
   intro j hj;have:j=0∨j=1∨j=2∨j=3∨j=4:=by omega
   rcases this with rfl|rfl|rfl|rfl|rfl
   ·exact⟨by rw[z0];rfl,y0⟩
   ·exact⟨by rw[z1];rfl,y1⟩
   ·exact⟨by rw[z2];rfl,y2⟩
   ·exact⟨by rw[z3];rfl,y3⟩
   ·exact⟨by rw[z4];rfl,y4⟩
  obtain⟨t0,t1,t2,t3,t4⟩:=jS hroom (.int .i64 0) (.int .i64 0) (.int .i64 0) (.int .i64 0) (.slice none 0 0);have hoZ:=iO w6 w.heap.size (.int .i64 0) (.int .i64 0) (.int .i64 0) (.int .i64 0) (.slice none 0 0);obtain⟨WZ,hWZ⟩:∃ WZ,WZ=lJ w6 w.heap.size (.int .i64 0) (.int .i64 0) (.int .i64 0) (.int .i64 0) (.slice none 0 0):=⟨_,rfl⟩;have hWZ':=hWZ;unfold lJ at hWZ';rw[←hWZ]at t0 t1 t2 t3 t4 hoZ;rw[←hWZ'];clear hWZ hWZ' z0 z1 z2 z3 z4 y0 y1 y2 y3 y4;have hzZ:=hoZ.size;refine bodyPost_ret (v:=.tuple #[.agg #[.int .i64 0,.int .i64 0,.int .i64 0,.int .i64 0,.slice none 0 0],.int .i64 why]) ?_ rfl ?_
  ·rw[results_cell_tmp rfl];simp[go_sem,t0,t1,t2,t3,t4]
  have hmv6:Moved w ov ov6:=Hmv4.out.trans Hm6.out (by have:=HO4.out.size;omega)
  have hnK:∀ b,bG kb qb mb ov6 b→¬b=w.heap.size:=by
   rintro b hb rfl;rcases hb with hb|hb|hb|hb
   ·omega
   ·have:=H.out.lt qb (.inr (.inl rfl));omega
   ·have:=H.out.lt mb (.inr (.inr (.inl rfl)));omega
   ·rcases Hm6.out with e|⟨g,e,hg⟩
    ·exact Hn6.out (.inr (.inr (hb.trans e)))
    ·rw[e]at hb;simp at hb;omega
  have hnS:∀ b,dV sqb smb sov3 b→¬b=w.heap.size:=by
   rintro b hb rfl;rcases hb with hb|hb|hb
   ·have:=HS.out.lt sqb (.inl rfl);omega
   ·have:=HS.out.lt smb (.inr (.inl rfl));omega
   ·rcases hm3 with e|⟨g,e,hg⟩
    ·have:=HS.out.lt w.heap.size (.inr (.inr (hb.trans e)));omega
    ·rw[e]at hb;simp at hb;omega
  have hk6:KerP R base w6 kb qb mb ov6 ents ks draws s:=Hk5.out.queue Ho6.out Hq6.out Hm6.out;have hs6:QueP base' w6 sqb smb sov3 s.q:=Hs5.out.only Ho6.out (fun b hb hc=>Hbes4.out.ks b (.inr hc) hb);have ho46:Only (bG kb qb mb ov4) w4 w6:=(Ho5.out.mono (fun k _ hk=>.inl hk)).trans (Ho6.out.mono (fun k _ hk=>.inr hk));unfold tX;refine⟨ov6,sov3,s.q,?_,hmv6,Hmv3.out,hs6.only hoZ hnS,?_,.inl ⟨hw0,rfl,hk6.only hoZ hnK (fun b hb hc=>by have:=H.out.rlt b hb;omega)⟩⟩
  ·refine⟨(hoZ.os.trans ho46.os).trans HO4.out.os,(hoZ.tape.trans ho46.tape).trans HO4.out.tape,(hoZ.output.trans ho46.output).trans HO4.out.output,by have:=HO4.out.size;have:=ho46.size;omega,?_⟩
   intro k hk hn;have h4:=HO4.out.size;have h6:=ho46.size;rw[hoZ.block k (by omega) (by omega),ho46.block k (by omega) (fP Hmv4.out hk (fun hc=>hn (.inl hc))),HO4.out.block k hk hn]
  ·refine⟨fun b hb hc=>?_,Hbes4.out.rs⟩;have hbl:=hs6.lt b hc;have hbl5:=Hs5.out.lt b hc;rcases hb with hb|hb|hb|hb
   ·exact Hbes4.out.ks b (.inl hb) hc
   ·exact Hbes4.out.ks b (.inr (.inl hb)) hc
   ·exact Hbes4.out.ks b (.inr (.inr (.inl hb))) hc
   ·rcases Hm6.out with e|⟨g,e,hg⟩
    ·exact Hbes4.out.ks b (.inr (.inr (.inr (hb.trans e)))) hc
    ·rw[e]at hb;simp at hb;omega
end Go.Proofs.YtndlmgocldckfaaGreat
