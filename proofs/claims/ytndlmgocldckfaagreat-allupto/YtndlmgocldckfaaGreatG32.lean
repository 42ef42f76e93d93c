import Derived.Test.YtndlmgocldckfaaGreatG31
import Derived.Test.YtndlmgocldckfaaGreatG28
import Derived.Test.YtndlmgocldckfaaGreatG14
import Derived.Test.YtndlmgocldckfaaGreatG03
import Derived.Test.YtndlmgocldckfaaGreatG11
import Derived.BigRegion
import Derived.BigQuiet
import Derived.Deep.RegionHeld3
import Derived.Deep.RegionLaw
import Derived.Test.YtndlmgocldckfaaGreatG30
import Derived.Test.YtndlmgocldckfaaGreatG27
namespace Go.Proofs.YtndlmgocldckfaaGreat
open Go.RowKit
set_option linter.unusedVariables false
set_option linter.unusedSimpArgs false
set_option maxRecDepth 100000
set_option maxHeartbeats 4000000
def kJ(n:Int)(q:List Ev):Bool:=q.any fun e=>decide (e.number=n)
theorem lF{n:Int}{q:List Ev}(h:kJ n q=false):∀ e∈q,e.number≠n:=by
 intro e he hc;have:kJ n q=true:=List.any_eq_true.2 ⟨e,he,by simpa using hc⟩
 rw[h]at this;cases this
theorem pL{n:Int}{q:List Ev}(h:kJ n q=true):∃ e∈q,e.number=n:=by
 obtain⟨e,he,hn⟩:=List.any_eq_true.1 h;exact⟨e,he,by simpa using hn⟩
theorem aEj{base:Nat}(qb mb:Nat)(ov:Value)(q:List Ev)(n:Int)(w:World)(h:QueP base w qb mb ov q) :
  Calls Tryz.prog 123 #[.pointer (some ⟨qb,0,none⟩),.int .i64 n] w fun e w'=>e=.returned (.bool (kJ n q))∧Below w.heap.size w w':=by
 obtain⟨es,clock,hm,hq⟩:=h.map;have h0:=h.c0;rcases hh:kJ n q with _|_
 ·have hrun:=lN hm hq (lF hh);clear hm hq h hh
  go_enter Tryz.func123,Tryz.ntmps123
  go_wp2
  go_ret;exact⟨rfl,(Below.refl _ _).alloc (Nat.le_refl _) _⟩
 ·obtain⟨e,he,rfl⟩:=pL hh;have hrun:=fK (W:=w) hm hq he h.distinct true;simp only[eU]at hrun;clear hm hq h hh
  go_enter Tryz.func123,Tryz.ntmps123
  go_wp2
  go_ret;exact⟨rfl,(Below.refl _ _).alloc (Nat.le_refl _) _⟩
structure LdR(R:Nat→Prop)(base:Nat)(w wr:World)(kb qb mb rb g:Nat)(ov0 ov:Value)(ents:Int)(ks:List (List Ins))(draws:List Int)(s:KS)(l:List Int)(flt:Bool):Prop where
 ker:KerP R base wr kb qb mb ov ents ks draws s
 rd:RdP wr rb g l flt
 sepr:¬bG kb qb mb ov rb
 sepg:¬bG kb qb mb ov g
 nr:¬R rb
 only:Only (fun b=>bG kb qb mb ov0 b∨b=rb) w wr
 moved:Moved w ov0 ov
 base:base≤wr.heap.size
section
variable {R : Nat → Prop} {base : Nat} {w wr w' : World} {kb qb mb rb g : Nat} {ov0 ov ov' : Value} {ents : Int} {ks : List (List Ins)} {draws : List Int} {s s' : KS} {l l' : List Int} {flt flt' : Bool}
theorem LdR.read(h:LdR R base w wr kb qb mb rb g ov0 ov ents ks draws s l flt)(ho:Only (·=rb) wr w')(hr:RdP w' rb g l' flt'):LdR R base w w' kb qb mb rb g ov0 ov ents ks draws s l' flt':=by
 have hz:=ho.size;exact⟨h.ker.only ho (fun b hb hc=>by subst hc;exact h.sepr hb) (fun b hb hc=>by subst hc;exact h.nr hb),hr,h.sepr,h.sepg,h.nr,h.only.trans (ho.mono (fun k _ hk=>.inr hk)),h.moved,by have:=h.base;omega⟩
theorem LdR.fresh(h:LdR R base w wr kb qb mb rb g ov0 ov ents ks draws s l flt)(hb:Below wr.heap.size wr w'):LdR R base w w' kb qb mb rb g ov0 ov ents ks draws s l flt:=by
 have hz:=hb.size;exact⟨h.ker.below hb,h.rd.only (Only.new (S:=fun _=>False) hb) (by simp) (by simp),h.sepr,h.sepg,h.nr,h.only.trans (Only.new hb),h.moved,by have:=h.base;omega⟩
theorem LdR.put{q':List Ev}(h:LdR R base w wr kb qb mb rb g ov0 ov ents ks draws s l flt)(ho:Only (dV qb mb ov) wr w')(hq:QueP base w' qb mb ov' q')(hm:Moved wr ov ov'):LdR R base w w' kb qb mb rb g ov0 ov' ents ks draws {s with q:=q'} l flt:=by
 have hz:=ho.size;have hrl:=h.rd.lt;have hgl:=h.rd.glt;have hzw:=h.only.size;have keep:∀ b,b<wr.heap.size→¬bG kb qb mb ov b→¬bG kb qb mb ov' b:=by
  rintro b hb hn (hc|hc|hc|hc)
  ·exact hn (.inl hc)
  ·exact hn (.inr (.inl hc))
  ·exact hn (.inr (.inr (.inl hc)))
  ·rcases hm with e|⟨g',e,hg'⟩
   ·exact hn (.inr (.inr (.inr (hc.trans e))))
   ·rw[e]at hc;simp at hc;omega
 refine⟨h.ker.queue ho hq hm,h.rd.only ho (fun hc=>h.sepr (.inr hc)) (fun hc=>h.sepg (.inr hc)),keep rb hrl h.sepr,keep g hgl h.sepg,h.nr,?_,?_,by have:=h.base;omega⟩
 ·refine h.only.chain ho ?_;rintro i hi (hc|hc|hc)
  ·exact .inl (.inr (.inl hc))
  ·exact .inl (.inr (.inr (.inl hc)))
  ·rcases h.moved with e|⟨g',e,hg'⟩
   ·exact .inl (.inr (.inr (.inr (hc.trans e))))
   ·rw[e]at hc;simp at hc;omega
 ·rcases hm with e|⟨g',e,hg'⟩
  ·rcases h.moved with e'|⟨g2,e',hg2⟩
   ·exact .inl (e.trans e')
   ·exact .inr ⟨g2,e.trans e',hg2⟩
  ·exact .inr ⟨g',e,by omega⟩
theorem LdR.other{ab:Nat}(h:LdR R base w wr kb qb mb rb g ov0 ov ents ks draws s l flt)(ho:Only (·=ab) wr w')(h1:¬bG kb qb mb ov ab)(h2:¬R ab)(h3:ab≠rb)(h4:ab≠g)(h5:w.heap.size≤ab):LdR R base w w' kb qb mb rb g ov0 ov ents ks draws s l flt:=by
 have hz:=ho.size;exact⟨h.ker.only ho (fun b hb hc=>by subst hc;exact h1 hb) (fun b hb hc=>by subst hc;exact h2 hb),h.rd.only ho (Ne.symm h3) (Ne.symm h4),h.sepr,h.sepg,h.nr,h.only.chain ho (fun i hi hc=>by omega),h.moved,by have:=h.base;omega⟩
theorem LdR.set(h:LdR R base w wr kb qb mb rb g ov0 ov ents ks draws s l flt)(o:Nat)(v:Value)(hk:KerP R base (wr.setCell ⟨kb,o,none⟩ v) kb qb mb ov ents ks draws s'):LdR R base w (wr.setCell ⟨kb,o,none⟩ v) kb qb mb rb g ov0 ov ents ks draws s' l flt:=by
 have ho:Only (·=kb) wr (wr.setCell ⟨kb,o,none⟩ v):=(Only.refl (·=kb) wr).setCell (p:=⟨kb,o,none⟩) (show kb=kb from rfl) _
 have hz:=ho.size;exact⟨hk,h.rd.only ho (fun hc=>h.sepr (.inl hc)) (fun hc=>h.sepg (.inl hc)),h.sepr,h.sepg,h.nr,h.only.trans (ho.mono (fun k _ hk=>.inl (.inl hk))),h.moved,by have:=h.base;omega⟩
end
def jN(ents:Int)(nk:Nat)(next:Int):Nat→Int→Int→List Ev→List Int→Bool→Bool×List Ev×List Int×Bool
 | 0,_,_,q,l,f=>(true,q,l,f)
 | n+1,t,an,q,l,f=>
  if kJ (gY ents nk next t an l f).1.number q then (false,q,(gY ents nk next t an l f).2)
  else jN ents nk next n (gY ents nk next t an l f).1.time (gY ents nk next t an l f).1.number (dR (gY ents nk next t an l f).1 q) (gY ents nk next t an l f).2.1 (gY ents nk next t an l f).2.2
def eZ(ents:Int)(nk:Nat)(next clock:Int)(q:List Ev)(l:List Int)(f:Bool):Bool×List Ev×List Int×Bool:=
 jN ents nk next (aL 0 16 l f).1.toNat clock 0 q (aL 0 16 l f).2.1 (aL 0 16 l f).2.2
theorem aFp{ents:Int}{nk:Nat}{next t an:Int}{l:List Int}{f:Bool}(ht:0≤t∧t≤1000000000000)(ha:0≤an)(hn:next≤1000000000):0≤(gY ents nk next t an l f).1.time∧(gY ents nk next t an l f).1.time≤1000000000000∧0≤(gY ents nk next t an l f).1.number∧(gY ents nk next t an l f).1.number≤1000000000:=by
 have h1:=dU 0 (1000000000000-t) (by omega) l f
 simp only[gY];generalize aL 0 (1000000000000-t) l f=a at h1;have h0:0≤iB a.1 an:=by unfold iB;split<;>omega
 have h2:=dU (iB a.1 an) (next-1) h0 a.2.1 a.2.2
 omega
structure EvAt(w:World)(ab:Nat)(an t k0 e0:Int):Prop where
 c0:w.cell? ⟨ab,0,none⟩=some (.int .i64 an)
 c1:w.cell? ⟨ab,1,none⟩=some (.int .i64 t)
 c2:w.cell? ⟨ab,2,none⟩=some (.int .i64 k0)
 c3:w.cell? ⟨ab,3,none⟩=some (.int .i64 e0)
 room:Room w ab 4
theorem EvAt.only{w w':World}{ab:Nat}{an t k0 e0:Int}{U:Nat→Prop}(h:EvAt w ab an t k0 e0)(ho:Only U w w')(hn:¬U ab):EvAt w' ab an t k0 e0:=
 ⟨ho.at h.c0 hn,ho.at h.c1 hn,ho.at h.c2 hn,ho.at h.c3 hn,h.room.only ho hn⟩
structure RqI(R:Nat→Prop)(base:Nat)(w wr:World)(kb qb mb rb g ab:Nat)(ov0 ov:Value)(ents:Int)(ks:List (List Ins))(draws:List Int)(s:KS)(q:List Ev)(l:List Int)(flt:Bool)(an t k0 e0:Int)(n:Nat)(RES:Bool×List Ev×List Int×Bool):Prop where
 ld:LdR R base w wr kb qb mb rb g ov0 ov ents ks draws {s with q:=q} l flt
 ev:EvAt wr ab an t k0 e0
 sep:¬bG kb qb mb ov ab
 ne:ab≠rb∧ab≠g
 nr:¬R ab
 wlt:w.heap.size≤ab
 res:jN ents ks.length s.next n t an q l flt=RES
theorem aAq{R:Nat→Prop}{base:Nat}(kb qb mb rb g:Nat)(ov0 ov:Value)(ents:Int)(ks:List (List Ins))(draws:List Int)(s:KS)(l:List Int)(flt:Bool)(w wr:World)(h:LdR R base w wr kb qb mb rb g ov0 ov ents ks draws s l flt)(he:1≤ents∧ents≤8)(hk:ks.length≤8)(hq:s.q=[])(hc:0≤s.clock∧s.clock≤1000000000000)(hn:0≤s.next∧s.next≤1000000000) :
  Calls Tryz.prog 106 #[.pointer (some ⟨kb,0,none⟩),.pointer (some ⟨rb,0,none⟩)] wr fun e w'=>e=.returned (.bool (eZ ents ks.length s.next s.clock [] l flt).1)∧∃ ov',LdR R base w w' kb qb mb rb g ov0 ov' ents ks draws {s with q:=(eZ ents ks.length s.next s.clock [] l flt).2.1} (eZ ents ks.length s.next s.clock [] l flt).2.2.1 (eZ ents ks.length s.next s.clock [] l flt).2.2.2:=by
 have H:=aB h;have c4:=h.ker.c4;have hkl:=h.ker.klt;clear h
 go_enter Tryz.func106,Tryz.ntmps106
 go_wp2_with fail
 obtain⟨W0,hW0⟩:∃ W0,W0=wr.alloc (.cells #[.int .i64 0,.int .i64 s.clock,.int .i64 0,.int .i64 0] 171):=⟨_,rfl⟩;have hb0:Below wr.heap.size wr W0:=by rw[hW0];exact(Below.refl _ _).alloc (Nat.le_refl _) _
 have hz0:W0.heap.size=wr.heap.size+1:=by rw[hW0];simp
 have x0:W0.cell? ⟨wr.heap.size,0,none⟩=some (.int .i64 0):=by rw[hW0];simp[go_sem]
 have x1:W0.cell? ⟨wr.heap.size,1,none⟩=some (.int .i64 s.clock):=by rw[hW0];simp[go_sem]
 have x2:W0.cell? ⟨wr.heap.size,2,none⟩=some (.int .i64 0):=by rw[hW0];simp[go_sem]
 have x3:W0.cell? ⟨wr.heap.size,3,none⟩=some (.int .i64 0):=by rw[hW0];simp[go_sem]
 have xr:Room W0 wr.heap.size 4:=by
  rw[hW0];intro j hj;have:j=0∨j=1∨j=2∨j=3:=by omega
  rcases this with rfl|rfl|rfl|rfl<;>simp[go_sem]
 rw[←hW0];clear hW0 c4;have H0:=aB (H.out.fresh hb0);have hrl:=H.out.rd.lt;clear hb0;have hle:=dU 0 16 (by omega) l flt
 have HQ:Hid (eZ ents ks.length s.next s.clock [] l flt=jN ents ks.length s.next (aL 0 16 l flt).1.toNat s.clock 0 [] (aL 0 16 l flt).2.1 (aL 0 16 l flt).2.2):=by show _=_;rfl
 refine(cN rb g l flt 0 16 W0 H0.out.rd).mono ?_;rintro e w1 ⟨rfl,ho1,hr1⟩;have H1:=aB (H0.out.read ho1 hr1);have y0:=ho1.at x0 (by omega)
 have y1:=ho1.at x1 (by omega)
 have y2:=ho1.at x2 (by omega)
 have y3:=ho1.at x3 (by omega)
 have yr:=xr.only ho1 (by omega)
 have hz1:=ho1.size;generalize aL 0 16 l flt=p at hle HQ H1 ⊢;obtain⟨v,l1,f1⟩:=p;simp only at hle HQ H1 ⊢;obtain⟨N,rfl⟩:=Int.eq_ofNat_of_zero_le (show 0≤v by omega)
 simp only[Int.toNat_natCast]at HQ;have hN:N≤16:=by omega
 have Hab:Hid (¬bG kb qb mb ov wr.heap.size):=fun hc=>by have:=H.out.ker.lt _ hc;omega
 clear ho1 hr1 x0 x1 x2 x3 xr hle
 go_wp2_with fail
 have HI1:Hid (RqI R base w w1 kb qb mb rb g wr.heap.size ov0 ov ents ks draws s [] l1 f1 0 s.clock 0 0 N (eZ ents ks.length s.next s.clock [] l flt)):=by
  refine⟨?_,⟨y0,y1,y2,y3,yr⟩,Hab.out,⟨by omega,by have:=H.out.rd.glt;omega⟩,fun hc=>by have:=H.out.ker.rlt _ hc;omega,H.out.only.size,HQ.out.symm⟩
  have:=H1.out;rw[←hq];exact this
 generalize hRES:eZ ents ks.length s.next s.clock [] l flt=RES at HI1 ⊢
 have HRES:=aB hRES;clear hRES;generalize wr.heap.size=ab at *;clear y0 y1 y2 y3 yr H0 H1 H HQ
 go_loopg [15] 20 (fun gf s15 wx=>∃ (i:Nat) (ovi:Value) (q:List Ev) (li:List Int) (fi:Bool) (an t k0 e0:Int),s15=.int .i64 i∧N-i+1≤gf∧i≤N∧q.length=i∧(0≤t∧t≤1000000000000)∧(0≤an∧an≤1000000000)∧Hid (RqI R base w wx kb qb mb rb g ab ov0 ovi ents ks draws s q li fi an t k0 e0 (N-i) RES))
 case atStart=>exact⟨0,ov,[],l1,f1,0,s.clock,0,0,rfl,by omega,by omega,rfl,hc,by omega,HI1.out⟩
 case round=>
  obtain⟨i,ovi,q,li,fi,an,t,k0,e0,rfl,hgf,hi,hql,ht,han,hI⟩:=hrel
  by_cases hlt:i<N
  ·have d1:decide ((i:Int)<(N:Int))=true:=by simp;omega
   have hw:IntKind.i64.wrap ((i:Int)+1)=(i:Int)+1:=by rw[IntKind.wrap_i64];omega
   have a0:=hI.out.ev.c0;have a1:=hI.out.ev.c1;have a2:=hI.out.ev.c2;have a3:=hI.out.ev.c3;have HX:=aB (aFo kb qb mb ovi ents ks draws {s with q:=q} rb g li fi t an k0 e0 _ hI.out.ld.ker he hk hI.out.ld.rd (fun hc=>hI.out.ld.sepr (.inl hc)) ht han hn);have Hle:=aB (aFp (ents:=ents) (nk:=ks.length) (next:=s.next) (l:=li) (f:=fi) ht han.1 hn.2)
   have HR:=aB hI.out.res;rw[show N-i=(N-(i+1))+1 by omega,jN]at HR
   go_wp2_with fail
   refine HX.out.mono ?_;rintro e w2 ⟨rfl,ho2,hr2⟩;simp only at hr2 ⊢;generalize gY ents ks.length s.next t an li fi=x at hr2 HR Hle ⊢
   obtain⟨⟨et,en,ek,ee⟩,l2,f2⟩:=x;simp only[eU]at hr2 HR Hle ⊢;have HL2:=aB (hI.out.ld.read ho2 hr2);have HE2:=aB (hI.out.ev.only ho2 hI.out.ne.1);have hz2:=ho2.size;clear a0 a1 a2 a3 ho2 hr2 HX
   go_wp2_with fail
   obtain⟨W3,hW3⟩:∃ W3,W3=w2.alloc (.cells #[.int .i64 en,.int .i64 et,.int .i64 ek,.int .i64 ee] 171):=⟨_,rfl⟩;have hb3:Below w2.heap.size w2 W3:=by rw[hW3];exact(Below.refl _ _).alloc (Nat.le_refl _) _
   have hz3:W3.heap.size=w2.heap.size+1:=by rw[hW3];simp
   have x0:W3.cell? ⟨w2.heap.size,0,none⟩=some (.int .i64 en):=by rw[hW3];simp[go_sem]
   have x1:W3.cell? ⟨w2.heap.size,1,none⟩=some (.int .i64 et):=by rw[hW3];simp[go_sem]
   have x2:W3.cell? ⟨w2.heap.size,2,none⟩=some (.int .i64 ek):=by rw[hW3];simp[go_sem]
   have x3:W3.cell? ⟨w2.heap.size,3,none⟩=some (.int .i64 ee):=by rw[hW3];simp[go_sem]
   rw[←hW3];clear hW3;have HL3:=aB (HL2.out.fresh hb3);have HE3:=aB (HE2.out.only (Only.new (S:=fun _=>False) hb3) (by simp))
   have p3:=HL3.out.ker.c3;have hkl3:=HL3.out.ker.klt;have HH:=aB (aEj qb mb ovi q en W3.drew (HL3.out.ker.que.below (Below.refl _ _).drew));clear hb3
   go_region_held3 (fun W'=>W'.cell? ⟨kb,3,none⟩=some (.pointer (some ⟨qb,0,none⟩))∧W'.cell? ⟨w2.heap.size,0,none⟩=some (.int .i64 en))
    (first|exact⟨p3,x0⟩|exact⟨aA hb4 p3 (by omega),aA hb4 x0 (by omega)⟩)
    (first|(go_at_call 123;refine HH.out.mono ?_;rintro e' w4 ⟨rfl,hb4'⟩;(have hb4:Below W3.heap.size W3 w4:=(Below.refl _ _).drew.trans hb4')))
   have hz4:=hb4.size;have HL4:=aB (HL3.out.fresh hb4);have HE4:=aB (HE3.out.only (Only.new (S:=fun _=>False) hb4) (by simp))
   have z0:=aA hb4 x0 (by omega)
   have z1:=aA hb4 x1 (by omega)
   have z2:=aA hb4 x2 (by omega)
   have z3:=aA hb4 x3 (by omega)
   clear hb4 hb4' HH x0 x1 x2 x3 p3;rcases hh:kJ en q with _|_
   ·have p4:=HL4.out.ker.c3;have hres:=HR.out;rw[hh,if_neg (by simp)]at hres
    have Hres:=aB hres;have HP:=aB (yS qb mb ovi q ⟨et,en,ek,ee⟩ w4.drew (HL4.out.ker.que.below (Below.refl _ _).drew) HL4.out.base (by omega) (lF hh))
    have Hne4:Hid (¬dV qb mb ovi w2.heap.size):=fun hc=>by have:=HL2.out.ker.lt _ (.inr hc);omega
    have Hkq:=aB HL4.out.ker.kq;clear hres
    go_wp2_with fail
    go_region_held3 (fun W'=>W'.cell? ⟨kb,3,none⟩=some (.pointer (some ⟨qb,0,none⟩))∧W'.cell? ⟨w2.heap.size,0,none⟩=some (.int .i64 en)∧W'.cell? ⟨w2.heap.size,1,none⟩=some (.int .i64 et)∧W'.cell? ⟨w2.heap.size,2,none⟩=some (.int .i64 ek)∧W'.cell? ⟨w2.heap.size,3,none⟩=some (.int .i64 ee))
     (first|exact⟨p4,z0,z1,z2,z3⟩|exact⟨ho5.at (w:=w4.drew) p4 Hkq.out,ho5.at (w:=w4.drew) z0 Hne4.out,ho5.at (w:=w4.drew) z1 Hne4.out,ho5.at (w:=w4.drew) z2 Hne4.out,ho5.at (w:=w4.drew) z3 Hne4.out⟩)
     (first|(go_at_call 114;refine HP.out.mono ?_;rintro e' w5 ⟨ov5,rfl,ho5,hq5,hm5⟩))
    have hz5:=ho5.size;have hO5:Only (dV qb mb ovi) w4 w5:=(Only.new (Below.refl _ _).drew).trans ho5;have HL5:=aB (HL4.out.put hO5 hq5 hm5);have HE5:=aB (HE4.out.only hO5 (fun hc=>hI.out.sep (.inr hc)));have u0:=hO5.at z0 Hne4.out;have u1:=hO5.at z1 Hne4.out;have u2:=hO5.at z2 Hne4.out;have u3:=hO5.at z3 Hne4.out;have hsep5:¬bG kb qb mb ov5 ab:=by
     have habl:=aC HE4.out.c0;rintro (hc|hc|hc|hc)
     ·exact hI.out.sep (.inl hc)
     ·exact hI.out.sep (.inr (.inl hc))
     ·exact hI.out.sep (.inr (.inr (.inl hc)))
     ·rcases hm5 with e|⟨g',e,hg'⟩
      ·exact hI.out.sep (.inr (.inr (.inr (hc.trans e))))
      ·rw[e]at hc;simp at hc;have:w4.heap.size≤g':=hg';omega
    have Hsep5:=aB hsep5;obtain⟨s0,v0⟩:=HE5.out.room 0 (by omega)
    obtain⟨s1,v1⟩:=HE5.out.room 1 (by omega)
    obtain⟨s2,v2⟩:=HE5.out.room 2 (by omega)
    obtain⟨s3,v3⟩:=HE5.out.room 3 (by omega)
    have r0:=HE5.out.c0;have r1:=HE5.out.c1;have r2:=HE5.out.c2;have r3:=HE5.out.c3;have hne2:¬ab=w2.heap.size:=by have:=aC HE2.out.c0;omega
    clear ho5 hq5 hm5 hO5 z0 z1 z2 z3 p4 HP hsep5 s0 s1 s2 s3
    go_wp2_with fail
    go_roundg (N-(i+1)+1)
    case measure=>omega
    case rel=>
     have hoZ:Only (·=ab) w5 (set4 w5 ab 0 ⟨en,et,ek,ee⟩):=(Only.refl (·=ab) w5).set4 (b:=ab) (show ab=ab from rfl) 0 _
     obtain⟨q0,q1,q2,q3⟩:=mQ w5 ab 0 4 ⟨en,et,ek,ee⟩ HE5.out.room (by omega)
     have hrm:=HE5.out.room.set4 ab 0 ⟨en,et,ek,ee⟩;obtain⟨b1,b2,b3,b4⟩:=Hle.out;refine⟨i+1,ov5,dR ⟨et,en,ek,ee⟩ q,l2,f2,en,et,ek,ee,by go_num,Nat.le_refl _,by omega,by rw[cX];omega,⟨b1,b2⟩,⟨b3,b4⟩,⟨?_,⟨q0,q1,q2,q3,hrm⟩,Hsep5.out,hI.out.ne,hI.out.nr,hI.out.wlt,Hres.out⟩⟩
     exact HL5.out.other hoZ Hsep5.out hI.out.nr hI.out.ne.1 hI.out.ne.2 hI.out.wlt
   ·have hres:=HR.out;rw[hh,if_pos rfl]at hres;have Hres:=aB hres;clear hres
    go_wp2_with fail
    go_ret;rw[HRES.out,←Hres.out];exact⟨rfl,ovi,HL4.out⟩
  ·have d1:decide ((i:Int)<(N:Int))=false:=by simp;omega
   have hres:=hI.out.res;rw[show N-i=0 by omega,jN]at hres
   have Hres:=aB hres;clear hres
   go_wp2_with fail
   go_ret;rw[HRES.out,←Hres.out];exact⟨rfl,ovi,hI.out.ld⟩
def evL(ents:Int)(nk:Nat)(next t:Int)(l:List Int)(bad:Bool):Ev×List Int×Bool:=
 let a:=aW 0 1000000000000 l bad
 let b:=aW 1 (next-1) a.2.1 a.2.2
 let c:=aW 0 (nk-1) b.2.1 b.2.2
 let d:=aW 0 (ents-1) c.2.1 c.2.2
 (⟨t+a.1,b.1,c.1,d.1⟩,d.2)
def mN(q:List Ev):Int:=(q.getLast?.map (·.number)).getD 0
def cZ(t:Int)(q:List Ev)(e:Ev):Bool:=decide (1000000000000<e.time)||(decide (0<q.length)&&(decide (e.time=t)&&decide (e.number<mN q)))
def quL(ents:Int)(nk:Nat)(next:Int):Nat→Int→List Ev→List Int→Bool→List Ev×List Int×Bool
 | 0,_,q,l,bad=>(q,l,bad)
 | n+1,t,q,l,bad=>if bad then (q,l,bad)else
  quL ents nk next n (evL ents nk next t l bad).1.time (q++[(evL ents nk next t l bad).1]) (evL ents nk next t l bad).2.1 (((evL ents nk next t l bad).2.2||kJ (evL ents nk next t l bad).1.number q)||cZ t q (evL ents nk next t l bad).1)
structure LkP(R:Nat→Prop)(lo:Nat)(w:World)(rb gb:Nat)(ents:Int)(ks:List (List Ins))(draws:List Int)(s:KS)(qv:Value)(m:Nat):Prop where
 c0:w.cell? ⟨rb,0,none⟩=some (.int .i64 ents)
 kinds:∃ kv,w.cell? ⟨rb,1,none⟩=some kv∧KindsIn R w kv ks
 draw:∃ dv,w.cell? ⟨rb,2,none⟩=some dv∧IntsIn R w dv draws
 c3:w.cell? ⟨rb,3,none⟩=some (.int .i64 s.taken)
 c4:w.cell? ⟨rb,4,none⟩=some (.int .i64 s.clock)
 c5:w.cell? ⟨rb,5,none⟩=some (.int .i64 s.next)
 c6:w.cell? ⟨rb,6,none⟩=some (.slice (some ⟨gb,0,none⟩) m m)
 regs:∀ j,j<m→w.cell? ⟨gb,j,none⟩=some (.int .i64 (s.regs j))
 rroom:Room w gb m
 c7:w.cell? ⟨rb,7,none⟩=some qv
 que:w.ownsRow lo 143 4 qv s.q.length (aO (s.q.map aR))
 room:Room w rb 8
 far:∀ b,R b→b<w.heap.size∧b≠rb∧b≠gb∧some b≠qv.ownBlock
 ne:rb≠gb
 glt:gb<w.heap.size
 qr:some rb≠qv.ownBlock
 qg:some gb≠qv.ownBlock
def LkP.Set(rb gb:Nat)(qv:Value)(b:Nat):Prop:=b=rb∨b=gb∨some b=qv.ownBlock
section
variable {R : Nat → Prop} {lo : Nat} {w w' : World} {rb gb : Nat} {ents : Int} {ks : List (List Ins)} {draws : List Int} {s : KS} {qv : Value} {m : Nat}
theorem LkP.only{S:Nat→Prop}(h:LkP R lo w rb gb ents ks draws s qv m)(ho:Only S w w')(hS:∀ b,LkP.Set rb gb qv b→¬S b)(hR:∀ b,R b→¬S b):LkP R lo w' rb gb ents ks draws s qv m:=by
 have hr:=hS rb (.inl rfl);have hg:=hS gb (.inr (.inl rfl));obtain⟨kv,k1,k2⟩:=h.kinds;obtain⟨dv,d1,d2⟩:=h.draw;have hz:=ho.size;exact⟨ho.at h.c0 hr,⟨kv,ho.at k1 hr,k2.only ho hR⟩,⟨dv,ho.at d1 hr,d2.only ho hR⟩,ho.at h.c3 hr,ho.at h.c4 hr,ho.at h.c5 hr,ho.at h.c6 hr,fun j hj=>ho.at (h.regs j hj) hg,h.rroom.only ho hg,ho.at h.c7 hr,aN h.que ho (fun b hb=>hS b (.inr (.inr hb))),h.room.only ho hr,fun b hb=>⟨Nat.lt_of_lt_of_le (h.far b hb).1 hz,(h.far b hb).2⟩,h.ne,Nat.lt_of_lt_of_le h.glt hz,h.qr,h.qg⟩
theorem LkP.below(h:LkP R lo w rb gb ents ks draws s qv m)(hb:Below w.heap.size w w'):LkP R lo w' rb gb ents ks draws s qv m:=h.only (Only.new (S:=fun _=>False) hb) (by simp) (by simp)
theorem LkP.rlt(h:LkP R lo w rb gb ents ks draws s qv m):rb<w.heap.size:=aC h.c0
end
structure LdS(R:Nat→Prop)(lo:Nat)(w0 w:World)(rb gb db:Nat)(ents:Int)(ks:List (List Ins))(draws:List Int)(s:KS)(qv:Value)(m:Nat)(all l:List Int)(bad:Bool):Prop where
 bel:Below lo w0 w
 ker:LkP R lo w rb gb ents ks draws s qv m
 rd:RdS w db all l bad
 sep:¬LkP.Set rb gb qv db
 rsep:¬R db
 los:lo≤rb∧lo≤gb∧lo≤db∧lo≤w.heap.size
section
variable {R : Nat → Prop} {lo : Nat} {w0 w w' : World} {rb gb db : Nat} {ents : Int} {ks : List (List Ins)} {draws : List Int} {s : KS} {qv : Value} {m : Nat} {all l l' : List Int} {bad bad' : Bool}
theorem LdS.read(h:LdS R lo w0 w rb gb db ents ks draws s qv m all l bad)(ho:Only (·=db) w w')(hr:RdS w' db all l' bad'):LdS R lo w0 w' rb gb db ents ks draws s qv m all l' bad':=by
 have hz:=ho.size;refine⟨h.bel.trans (ho.below h.los.2.2.2 (fun k hk hc=>by have:=h.los.2.2.1;omega)),h.ker.only ho (fun b hb hc=>h.sep (hc▸hb)) (fun b hb hc=>h.rsep (hc▸hb)),hr,h.sep,h.rsep,⟨h.los.1,h.los.2.1,h.los.2.2.1,by have:=h.los.2.2.2;omega⟩⟩
theorem LdS.fresh(h:LdS R lo w0 w rb gb db ents ks draws s qv m all l bad)(hb:Below w.heap.size w w'):LdS R lo w0 w' rb gb db ents ks draws s qv m all l bad:=by
 have hz:=hb.size;exact⟨h.bel.trans (hb.mono h.los.2.2.2),h.ker.below hb,h.rd.below hb,h.sep,h.rsep,⟨h.los.1,h.los.2.1,h.los.2.2.1,by have:=h.los.2.2.2;omega⟩⟩
theorem LdS.push{W w2:World}{qv2:Value}{e:Ev}(h:LdS R lo w0 w rb gb db ents ks draws s qv m all l bad)(hW:Below w.heap.size w W)(hg:W.grownBy w2 qv.ownBlock)(hown:w2.ownsRow lo 143 4 qv2 (s.q.length+1) (aO (s.q.map aR)++aO [aR e]))(hwh:qv2.ownBlock=qv.ownBlock∨qv2.ownBlock=some W.heap.size) :
  LdS R lo w0 (w2.setCell ⟨rb,7,none⟩ qv2) rb gb db ents ks draws {s with q:=s.q++[e]} qv2 m all l bad:=by
 have hz:=hW.size;have hz2:=hg.size;have hrl:=h.ker.rlt;have hgl:=h.ker.glt;have ho:Only (fun b=>some b=qv.ownBlock) w w2:=(Only.new hW).trans (aF hg);have hs:Only (·=rb) w2 (w2.setCell ⟨rb,7,none⟩ qv2):=Only.setCell (S:=(·=rb)) (Only.refl _ _) rfl _
 have hnew:∀ b,b<w.heap.size→some b≠qv.ownBlock→some b≠qv2.ownBlock:=by
  intro b hb hn hc;rcases hwh with e'|e'
  ·rw[e']at hc;exact hn hc
  ·rw[e']at hc;have:=Option.some.inj hc;omega
 have hcell:∀ (j:Nat) u,j≠7→w.cell? ⟨rb,j,none⟩=some u→(w2.setCell ⟨rb,7,none⟩ qv2).cell? ⟨rb,j,none⟩=some u:=by
  intro j u hj hu;rw[World.cell?_setCell_other _ _ _ _ (by simp;try omega)]
  exact ho.at hu h.ker.qr
 have hroom:Room w2 rb 8:=h.ker.room.only ho h.ker.qr;have hoa:Only (fun b=>b=rb∨some b=qv.ownBlock) w (w2.setCell ⟨rb,7,none⟩ qv2):=(ho.mono (fun b _ hb=>.inr hb)).trans (hs.mono (fun b _ hb=>.inl hb));have hsz:(w2.setCell ⟨rb,7,none⟩ qv2).heap.size=w2.heap.size:=by simp[World.setCell]
 obtain⟨kv,k1,k2⟩:=h.ker.kinds;obtain⟨dv,d1,d2⟩:=h.ker.draw;have hRS:∀ b,R b→¬(b=rb∨some b=qv.ownBlock):=by
  rintro b hb (e'|e')
  ·exact(h.ker.far b hb).2.1 e'
  ·exact(h.ker.far b hb).2.2.2 e'
 have hgS:¬(gb=rb∨some gb=qv.ownBlock):=by
  rintro (e'|e')
  ·exact h.ker.ne e'.symm
  ·exact h.ker.qg e'
 have hdS:¬(db=rb∨some db=qv.ownBlock):=by
  rintro (e'|e')
  ·exact h.sep (.inl e')
  ·exact h.sep (.inr (.inr e'))
 have hdl:=h.rd.lt;have hqr2:=hnew rb hrl h.ker.qr;have hqg2:=hnew gb hgl h.ker.qg;have hlos:=h.los;refine⟨?_,⟨hcell 0 _ (by omega) h.ker.c0,⟨kv,hcell 1 _ (by omega) k1,k2.only hoa hRS⟩,⟨dv,hcell 2 _ (by omega) d1,d2.only hoa hRS⟩,hcell 3 _ (by omega) h.ker.c3,hcell 4 _ (by omega) h.ker.c4,hcell 5 _ (by omega) h.ker.c5,hcell 6 _ (by omega) h.ker.c6,fun j hj=>hoa.at (h.ker.regs j hj) hgS,h.ker.rroom.only hoa hgS,World.cell?_setCell_same' _ _ _ (hroom 7 (by omega)).1,?_,hroom.setCell _ _,?_,h.ker.ne,by omega,hqr2,hqg2⟩,h.rd.only hoa hdS,?_,h.rsep,⟨hlos.1,hlos.2.1,hlos.2.2.1,by omega⟩⟩
 ·refine h.bel.trans (hoa.below hlos.2.2.2 ?_);rintro b hb (e'|e')
  ·omega
  ·have:=(h.ker.que.lt b e'.symm).1;omega
 ·have he:aO ((s.q++[e]).map aR)=aO (s.q.map aR)++aO [aR e]:=by simp[aO]
  show World.ownsRow _ _ _ _ _ (s.q++[e]).length (aO ((s.q++[e]).map aR));rw[he,List.length_append];exact aN hown hs (fun b hb e'=>hqr2 (by rw[←hb,e']))
 ·intro b hb;have hf:=h.ker.far b hb;exact⟨by omega,hf.2.1,hf.2.2.1,hnew b hf.1 hf.2.2.2⟩
 ·rintro (e'|e'|e')
  ·exact h.sep (.inl e')
  ·exact h.sep (.inr (.inl e'))
  ·exact hnew db hdl (fun hc=>h.sep (.inr (.inr hc))) e'
end
def gU:Nat→(Nat→Int)→Nat→List Int→Bool→(Nat→Int)×List Int×Bool
 | 0,f,_,l,b=>(f,l,b)
 | n+1,f,j,l,b=>gU n (cD f j (eE 1000000000 l b).1) (j+1) (eE 1000000000 l b).2.1 (eE 1000000000 l b).2.2
theorem aEk{R:Nat→Prop}{base:Nat}(kb qb mb rb g:Nat)(ov0:Value)(E:Nat)(ks:List (List Ins))(draws:List Int)(l:List Int)(w:World)(s:KS)(h:LdR R base w w kb qb mb rb g ov0 ov0 (E:Int) ks draws s l false)(he:1≤E∧E≤8)(hk:ks.length≤8)(hd:draws.length≤1000)(hq:s.q=[])
  (v1 v2 v3 v4 v5:Int) (l1 l2 l3 l4 l5 l6 l7:List Int) (f1 f2 f3 f4 f5 f6 f7:Bool) (rg:Nat→Int) (qq:List Ev) (ok:Bool)
  (e1:aL E E l false=(v1,l1,f1)) (e2:aL ks.length ks.length l1 f1=(v2,l2,f2)) (e3:aL 0 1000000000000 l2 f2=(v3,l3,f3)) (e4:aL 1 1000000000 l3 f3=(v4,l4,f4)) (e5:aL 0 draws.length l4 f4=(v5,l5,f5))
  (e6:gU (E*4) s.regs 0 l5 f5=(rg,l6,f6)) (e7:eZ E ks.length v4 v3 [] l6 f6=(ok,qq,l7,f7)) :
  Calls Tryz.prog 65 #[.pointer (some ⟨kb,0,none⟩),.pointer (some ⟨rb,0,none⟩)] w fun e w'=>e=.returned (.bool (ok&&(!f7&&l7.isEmpty)))∧∃ ov',LdR R base w w' kb qb mb rb g ov0 ov' (E:Int) ks draws ⟨v5.toNat,v3,v4,rg,qq⟩ l7 f7:=by
 have H:=aB h;obtain⟨kv,hkv,hkin⟩:=h.ker.kinds;obtain⟨ka,kc,rfl⟩:=hkin.form;obtain⟨dv,hdv,hdin⟩:=h.ker.draw;obtain⟨da,dc,rfl⟩:=hdin.form;have c0:=h.ker.c0;have hkl:=h.ker.klt;have E1:=aB e1;have E2:=aB e2;have E3:=aB e3;have E4:=aB e4;have E5:=aB e5;have E6:=aB e6;have E7:=aB e7;have g3:=dU 0 1000000000000 (by omega) l2 f2
 have g4:=dU 1 1000000000 (by omega) l3 f3
 have g5:=dU 0 draws.length (by omega) l4 f4
 rw[e3]at g3;rw[e4]at g4;rw[e5]at g5;simp only at g3 g4 g5;clear h hkin hdin e1 e2 e3 e4 e5 e6 e7
 go_enter Tryz.func65,Tryz.ntmps65
 go_wp2_with fail
 go_quiet (fail)
 go_wp2_with fail
 have H:=aB (H.out.fresh (below_drewN (Below.refl _ _) nq));generalize w.drewN nq=W0 at H ⊢;refine(cN rb g l false _ _ W0 H.out.rd).mono ?_;rintro e w1 ⟨rfl,ho1,hr1⟩;rw[E1.out]at hr1 ⊢;simp only at hr1 ⊢;have H1:=aB (H.out.read ho1 hr1);clear ho1 hr1
 go_wp2_with fail
 refine(cN rb g l1 f1 _ _ w1 H1.out.rd).mono ?_;rintro e w2 ⟨rfl,ho2,hr2⟩;rw[E2.out]at hr2 ⊢;simp only at hr2 ⊢;have H2:=aB (H1.out.read ho2 hr2);clear ho2 hr2
 go_wp2_with fail
 refine(cN rb g l2 f2 _ _ w2 H2.out.rd).mono ?_;rintro e w3 ⟨rfl,ho3,hr3⟩;rw[E3.out]at hr3 ⊢;simp only at hr3 ⊢;have H3:=aB (H2.out.read ho3 hr3);have k4:=H3.out.ker.c4;have z4:=(H3.out.ker.room 4 (by omega)).2
 clear ho3 hr3
 go_wp2_with fail
 have H3:=aB (H3.out.set 4 _ (H3.out.ker.setClock v3));generalize w3.setCell ⟨kb,4,none⟩ (.int .i64 v3)=W3 at H3 ⊢;clear k4 z4;refine(cN rb g l3 f3 _ _ W3 H3.out.rd).mono ?_;rintro e w4 ⟨rfl,ho4,hr4⟩;rw[E4.out]at hr4 ⊢;simp only at hr4 ⊢;have H4:=aB (H3.out.read ho4 hr4);have k5:=H4.out.ker.c5;have z5:=(H4.out.ker.room 5 (by omega)).2
 have H4s:=aB (H4.out.set 5 _ (H4.out.ker.setNext v4));obtain⟨dv4,hdv4,hdin4⟩:=H4s.out.ker.draw;obtain⟨da4,dc4,rfl⟩:=hdin4.form;clear ho4 hr4 hdin4
 go_wp2_with fail
 generalize w4.setCell ⟨kb,5,none⟩ (.int .i64 v4)=W4 at H4s ⊢;clear k5 z5 hdv4 H4;obtain⟨T,rfl⟩:=Int.eq_ofNat_of_zero_le (show 0≤v5 by omega)
 refine(cN rb g l4 f4 _ _ W4 H4s.out.rd).mono ?_;rintro e w5 ⟨rfl,ho5,hr5⟩;rw[E5.out]at hr5 ⊢;simp only at hr5 ⊢;have H5:=aB (H4s.out.read ho5 hr5);have k6:=H5.out.ker.c6;have z6:=(H5.out.ker.room 6 (by omega)).2
 have H5s:=aB (H5.out.set 6 _ (H5.out.ker.setTaken T));clear ho5 hr5
 go_wp2_with fail
 generalize w5.setCell ⟨kb,6,none⟩ (.int .i64 T)=W5 at H5s ⊢;clear k6 z6 H5;have HI5:Hid (LdR R base w W5 kb qb mb rb g ov0 ov0 (E:Int) ks draws ⟨T,v3,v4,s.regs,[]⟩ l5 f5):=by
  have:=H5s.out;rw[←hq];exact this
 go_loopg [53] 12 (fun gf s53 wx=>∃ (i:Nat) (rg':Nat→Int) (li:List Int) (fi:Bool),s53=.int .i64 i∧E-i+1≤gf∧i≤E∧Hid (LdR R base w wx kb qb mb rb g ov0 ov0 (E:Int) ks draws ⟨T,v3,v4,rg',[]⟩ li fi∧gU (E*4-i*4) rg' (i*4) li fi=(rg,l6,f6)))
 case atStart=>exact⟨0,s.regs,l5,f5,rfl,by omega,by omega,HI5.out,by simpa using E6.out⟩
 case round=>
  rename World=>wo;obtain⟨i,rgi,li,fi,rfl,hgf,hi,hI⟩:=hrel
  by_cases hlt:i<E
  ·have d1:decide ((i:Int)<(E:Int))=true:=by simp;omega
   have hw:IntKind.i64.wrap ((i:Int)+1)=(i:Int)+1:=by rw[IntKind.wrap_i64];omega
   have hi8:(i:Int)<8:=by omega
   go_wp2_with fail
   go_loopg [62] 7 (fun gf s62 wx=>∃ (j:Nat) (rg':Nat→Int) (lj:List Int) (fj:Bool),s62=.int .i64 j∧4-j+1≤gf∧j≤4∧Hid (LdR R base w wx kb qb mb rb g ov0 ov0 (E:Int) ks draws ⟨T,v3,v4,rg',[]⟩ lj fj∧gU (E*4-(i*4+j)) rg' (i*4+j) lj fj=(rg,l6,f6)))
   case atStart=>exact⟨0,rgi,li,fi,rfl,by omega,by omega,hI.out⟩
   case round=>
    obtain⟨j,rgj,lj,fj,rfl,hgf2,hj,hJ⟩:=hrel
    by_cases hj4:j<4
    ·have d2:decide ((j:Int)<4)=true:=by simp;omega
     have hj4':(j:Int)<4:=by omega
     have hwj:IntKind.i64.wrap ((j:Int)+1)=(j:Int)+1:=by rw[IntKind.wrap_i64];omega
     have hres:=hJ.out.2;rw[show E*4-(i*4+j)=(E*4-(i*4+(j+1)))+1 by omega,gU]at hres
     have Hres:=aB hres;have HX:=aB (zB rb g lj fj wr.drew (hJ.out.1.rd.only (Only.new (S:=fun _=>False) (Below.refl _ _).drew) (by simp) (by simp)))
     have HJ0:=aB (hJ.out.1.fresh (Below.refl _ _).drew);clear hres
     go_wp2_with fail
     go_region_held3 (fun _=>True)
      (exact trivial)
      (first|(go_at_call 105;refine HX.out.mono ?_;rintro e' w6 ⟨rfl,ho6,hr6⟩;(have HL6:=aB (HJ0.out.read ho6 hr6));(have r0:=HL6.out.ker.regs (i*4+j) (by omega));(have rf:=(HL6.out.ker.room (7+(i*4+j)) (by omega)).2);rw[←Nat.add_assoc]at r0 rf))
     have hk6:=HL6.out.ker.setReg (i:=i*4+j) (by omega) (eE 1000000000 lj fj).1
     have HL6s:=aB (HL6.out.set _ _ hk6);rw[←Nat.add_assoc]at HL6s;clear hk6 ho6 hr6 r0 rf HX
     go_wp2_with fail
     go_roundg (4-(j+1)+1)
     case measure=>omega
     case rel=>exact⟨j+1,_,_,_,by go_num,Nat.le_refl _,by omega,HL6s.out,Hres.out⟩
    ·have d2:decide ((j:Int)<4)=false:=by simp;omega
     obtain rfl:j=4:=by omega
     go_wp2_with fail
     go_roundg (E-(i+1)+1)
     case measure=>omega
     case rel=>exact⟨i+1,rgj,lj,fj,by go_num,Nat.le_refl _,by omega,hJ.out.1,by rw[show(i+1)*4=i*4+4 by omega];exact hJ.out.2⟩
  ·have d1:decide ((i:Int)<(E:Int))=false:=by simp;omega
   have hres:=hI.out.2;rw[show E*4-i*4=0 by omega,gU]at hres
   simp only[Prod.mk.injEq]at hres;obtain⟨rfl,rfl,rfl⟩:=hres;have HI:=aB hI.out.1
   go_wp2_with fail
   refine(aAq kb qb mb rb g ov0 ov0 (E:Int) ks draws _ li fi w wo HI.out (by omega) hk rfl (by simp only;omega) (by simp only;omega)).mono ?_
   rintro e w7 ⟨rfl,ov7,hL7⟩;simp only at hL7 ⊢;rw[E7.out]at hL7 ⊢;simp only at hL7 ⊢;have HL7:=aB hL7;clear hL7;rcases ok with _|_
   ·go_wp2_with fail
    go_ret;exact⟨by simp,ov7,by simpa using HL7.out⟩
   ·go_wp2_with fail
    refine(zC rb g l7 f7 w7 HL7.out.rd).mono ?_;rintro e w8 ⟨rfl,hb8⟩;have HL8:=aB (HL7.out.fresh hb8);clear hb8
    go_wp2_with fail
    go_ret;exact⟨by simp,ov7,by simpa using HL8.out⟩
end Go.Proofs.YtndlmgocldckfaaGreat
