import Derived.Test.YtndlmgocldckfaaGreatG12
import Derived.Test.YtndlmgocldckfaaGreatG01
import Derived.Deep.RegionWith
namespace Go.Proofs.YtndlmgocldckfaaGreat
open Go.RowKit
set_option linter.unusedVariables false
set_option linter.unusedSimpArgs false
set_option maxRecDepth 100000
set_option maxHeartbeats 4000000
def aA2(ents:Int)(nk:Nat)(s:KS)(time kind ent:Int):Bool:=(inB time s.clock 1000000000000&&inB kind 0 (nk-1))&&inB ent 0 (ents-1)
theorem aBx{R:Nat→Prop}{base:Nat}(kb qb mb:Nat)(ov:Value)(ents:Int)(ks:List (List Ins))(draws:List Int)(s:KS)(time kind ent:Int)(w:World)(h:KerP R base w kb qb mb ov ents ks draws s)(he:1≤ents)(he':ents≤8)(hk:ks.length≤8)(hno:aA2 ents ks.length s time kind ent=false) :
  Calls Tryz.prog 44 #[.pointer (some ⟨kb,0,none⟩),.int .i64 time,.int .i64 kind,.int .i64 ent] w fun e w'=>e=.returned (.tuple #[.int .i64 0,.int .i64 1])∧Below w.heap.size w w':=by
 obtain⟨kv,h1,h6⟩:=h.kinds;obtain⟨ka,kc,rfl⟩:=h6.form;have h0:=h.c0;have h4:=h.c4;have hbk:=aC h0;clear h h6;unfold aA2 at hno
 by_cases t1:time<s.clock
 ·have t1':decide (time<s.clock)=true:=by simpa using t1
  go_enter Tryz.func44,Tryz.ntmps44
  go_wp2
  go_ret2;exact⟨rfl,Below.refl _ _⟩
 have t1':decide (time<s.clock)=false:=by simpa using t1
 by_cases t2:1000000000000<time
 ·have t2':decide (1000000000000<time)=true:=by simpa using t2
  go_enter Tryz.func44,Tryz.ntmps44
  go_wp2
  go_ret2;exact⟨rfl,Below.refl _ _⟩
 have t2':decide (1000000000000<time)=false:=by simpa using t2
 have hti:inB time s.clock 1000000000000=true:=by simp[inB];omega
 rw[hti]at hno;rcases hk1:inB kind 0 (ks.length-1)with _|_
 ·clear hno
  go_enter Tryz.func44,Tryz.ntmps44
  go_wp2_with (go_at_call 83;refine(jI _ _ _ _ _ _ hk).mono ?_;rintro e w1 ⟨rfl,hb1⟩;rw[hk1])
  go_ret2;exact⟨rfl,hb1⟩
 ·rw[hk1]at hno;have hen:inB ent 0 (ents-1)=false:=by simpa using hno
  clear hno
  go_enter Tryz.func44,Tryz.ntmps44
  go_wp2_with (first|(go_at_call 83;refine(jI _ _ _ _ _ _ hk).mono ?_;rintro e w1 ⟨rfl,hb1⟩;rw[hk1];have g0:=aA hb1 h0 hbk;have g1:=aA hb1 h1 hbk)|(go_at_call 84;refine(eH _ _ _ _ _ _ he he').mono ?_;rintro e w2 ⟨rfl,hb2⟩;rw[hen]))
  go_ret2;exact⟨rfl,hb1.trans (hb2.mono hb1.size)⟩
theorem aBy{R:Nat→Prop}{base:Nat}(kb qb mb:Nat)(ov:Value)(ents:Int)(ks:List (List Ins))(draws:List Int)(s:KS)(time kind ent:Int)(w:World)(h:KerP R base w kb qb mb ov ents ks draws s)(hbase:base≤w.heap.size)(hok:KOk ents ks.length draws s)(he:1≤ents)(he':ents≤8)(hk:ks.length≤8)(hyes:aA2 ents ks.length s time kind ent=true) :
  Calls Tryz.prog 44 #[.pointer (some ⟨kb,0,none⟩),.int .i64 time,.int .i64 kind,.int .i64 ent] w fun e w'=>Only (bG kb qb mb ov) w w' ∧
   ((¬(s.q.length<16∧s.next<1000000000)∧e=.returned (.tuple #[.int .i64 0,.int .i64 3])∧KerP R base w' kb qb mb ov ents ks draws s) ∨
    ((s.q.length<16∧s.next<1000000000)∧e=.returned (.tuple #[.int .i64 s.next,.int .i64 0])∧∃ ov',Moved w ov ov'∧KerP R base w' kb qb mb ov' ents ks draws {s with q:=dR ⟨time,s.next,kind,ent⟩ s.q,next:=s.next+1})):=by
 have H:=aB h;obtain⟨kv,h1,h6⟩:=h.kinds;obtain⟨ka,kc,rfl⟩:=h6.form;have h0:=h.c0;have h4:=h.c4;have hbk:=aC h0;clear h h6;simp only[aA2,Bool.and_eq_true]at hyes;obtain⟨⟨hti,hk1⟩,hen⟩:=hyes;have hti':s.clock≤time∧time≤1000000000000:=by simpa [inB]using hti
 clear hti;have t1':decide (time<s.clock)=false:=by simp;omega
 have t2':decide (1000000000000<time)=false:=by simp;omega
 go_enter Tryz.func44,Tryz.ntmps44
 go_wp2_with (first|(go_at_call 83;refine(jI _ _ _ _ _ _ hk).mono ?_;rintro e w1 ⟨rfl,hb1⟩;rw[hk1];have g0:=aA hb1 h0 hbk;have g1:=aA hb1 h1 hbk)|(go_at_call 84;refine(eH _ _ _ _ _ _ he he').mono ?_;rintro e w2 ⟨rfl,hb2⟩;rw[hen]))
 have hb12:=hb1.trans (hb2.mono hb1.size);have hP2:=H.out.below hb12;have hz12:=hb12.size;refine(jG kb qb mb ov ents ks draws s _ hP2).mono ?_;rintro e w3 ⟨rfl,rfl⟩
 by_cases h16:s.q.length<16∧s.next<1000000000
 ·rw[show decide (s.q.length<16∧s.next<1000000000)=true by simpa using h16]
  go_wp2_with (go_at_call 86;refine(aB4 kb qb mb ov ents ks draws s _ _ _ _ hP2 (by omega) h16.1 (fun x hx=>(hok.evs x hx).2.2.2.1) ⟨hok.next.1,h16.2⟩).mono ?_;rintro e w4 ⟨ov4,rfl,ho4,hm4,hP4⟩)
  go_ret2;refine⟨(Only.new hb12).trans ho4,.inr ⟨h16,rfl,ov4,?_,hP4⟩⟩;rcases hm4 with e|⟨g,e,hg⟩
  ·exact .inl e
  ·exact .inr ⟨g,e,by omega⟩
 ·rw[show decide (s.q.length<16∧s.next<1000000000)=false by simpa using h16]
  go_wp2
  go_ret2;exact⟨Only.new hb12,.inl ⟨h16,rfl,hP2⟩⟩
theorem aDn{R:Nat→Prop}{base:Nat}(kb qb mb:Nat)(ov:Value)(ents:Int)(ks:List (List Ins))(draws:List Int)(s:KS)(w:World)(h:KerP R base w kb qb mb ov ents ks draws s)(ht:s.taken≤draws.length) :
  Calls Tryz.prog 48 #[.pointer (some ⟨kb,0,none⟩)] w fun e w'=>e=.returned (.tuple #[.int .i64 s.clock,.int .i64 s.q.length,.int .i64 ((draws.length:Int)-s.taken)])∧Below w.heap.size w w':=by
 obtain⟨dv,h2,h7⟩:=h.draw;obtain⟨da,dc,rfl⟩:=h7.form;have hdl:=h7.1;have h3:=h.c3;have h4:=h.c4;have h6:=h.c6;have Hq:=aB h.que;have hw:IntKind.i64.wrap ((draws.length:Int)-s.taken)=(draws.length:Int)-s.taken:=by rw[IntKind.wrap_i64];omega
 clear h h7
 go_enter Tryz.func48,Tryz.ntmps48
 go_wp2
 go_quiet ((go_at_call 93;exact Calls.quiet_of_same (tB qb mb ov s.q _ (Hq.out.below (below_drewN (Below.refl _ _) _)))))
 go_wp2
 go_ret3
 exact⟨rfl,below_drewN (Below.refl _ _) nq⟩
theorem CodeV.src'{B:Nat}{w:World}{v:Value}{l:List Ins}(h:CodeV B w v l):eO w v l.length (aO l):=by
 obtain⟨_,⟨rfl,rfl⟩|⟨b,off,cap,rfl,_,hc⟩|⟨a,cap,rfl,rfl⟩⟩:=h
 ·exact .inl ⟨rfl,rfl,rfl⟩
 ·exact .inr (.inl ⟨b,off,cap,rfl,hc.row⟩)
 ·exact .inr (.inr ⟨a,cap,rfl,rfl⟩)
theorem bF{w:World}{base:Nat}{e:TypeId}{size:Nat}{v:Value}{n:Nat}{xs:List Value}(h:w.ownsRow base e size v n xs):∃ sa sc,v=.slice sa n sc:=by
 obtain⟨_,⟨rfl,rfl⟩|⟨g,cap,cur,rfl,_⟩⟩:=h
 ·exact⟨_,_,rfl⟩
 ·exact⟨_,_,rfl⟩
theorem kP{w w':World}{row:Option Nat}(h:w.grownBy w' row):Only (fun b=>some b=row) w w':=⟨h.os,h.tape,h.output,h.size,fun k hk hn=>h.block k hk hn⟩
theorem xQ{w w':World}{base:Nat}{e:TypeId}{size:Nat}{v:Value}{n:Nat}{xs:List Value}(h:w.ownsRow base e size v n xs)(hb:Below w.heap.size w w'):w'.ownsRow base e size v n xs:=
 h.kept (row:=none) ⟨hb.os,hb.tape,hb.output,hb.size,fun k hk _=>hb.block k hk⟩ (by cases v.ownBlock<;>simp)
def CodesIn(lo:Nat)(w:World)(ov:Value)(vs:List Value)(ks:List (List Ins)):Prop:=
 ∀ (i:Nat) v l,vs[i]?=some v→ks[i]?=some l→CodeIn (fun b=>lo≤b∧b<w.heap.size∧some b≠ov.ownBlock) w v l
theorem CodesIn.step{lo:Nat}{w w1 W w2:World}{ov v1 v2:Value}{vs:List Value}{ks:List (List Ins)}{k n:Nat}{e:TypeId}(h:CodesIn lo w ov vs ks)(hvs:vs.length=k)(hk:k<ks.length)
  (hown:w.ownsRow lo e 1 ov n vs) (hb1:Below w.heap.size w w1) (hc:CodeIn (fun b=>w.heap.size≤b∧b<w1.heap.size) w1 v1 ks[k]) (hbW:Below w1.heap.size w1 W) (hW:w1.heap.size<W.heap.size) (hlo:lo≤w.heap.size)
  (hg:W.grownBy w2 ov.ownBlock) (hwh:v2.ownBlock=ov.ownBlock∨v2.ownBlock=some W.heap.size):CodesIn lo w2 v2 (vs++[v1]) ks:=by
 have hz1:=hb1.size;have hz2:=hg.size;have hlt:∀ b,ov.ownBlock=some b→b<w.heap.size:=fun b hb=>(hown.lt b hb).2;intro i v l hv hl
 by_cases hi:i<k
 ·rw[List.getElem?_append_left (by omega)]at hv
  have:=h i v l hv hl;refine(((this.only (Only.new (S:=fun _=>False) hb1) (by simp)).only ((Only.new (S:=fun _=>False) (hbW.mono (Nat.le_refl _)))) (by simp)).only (kP hg) (by intro b hb;exact hb.2.2)).mono ?_
  intro b hb;refine⟨hb.1,by omega,?_⟩
  rcases hwh with h|h<;>rw[h]
  ·exact hb.2.2
  ·intro e;have:=Option.some.inj e;omega
 ·rw[List.getElem?_append_right (by omega)]at hv
  have hik:i=k:=by
   have:=(List.getElem?_eq_some_iff.1 hv).1;simp at this;omega
  subst hik;rw[hvs]at hv;simp at hv;subst hv;have:l=ks[i]:=by rw[List.getElem?_eq_getElem hk]at hl;exact(Option.some.inj hl).symm
  subst this;refine((hc.only (Only.new (S:=fun _=>False) hbW) (by simp)).only (kP hg) (by intro b hb e;have:=hlt b e.symm;omega)).mono ?_
  intro b hb;refine⟨by omega,by omega,?_⟩
  rcases hwh with h|h<;>rw[h]
  ·intro e;have:=hlt b e.symm;omega
  ·intro e;have:=Option.some.inj e;omega
theorem kQ(ents:Int)(b off cap:Nat)(ks:List (List Ins))(w:World)(hl:ks.length≤5864062014805)(hbw:b<w.heap.size)(hK:KindsAt w.heap.size w b off ks) :
  Calls Tryz.prog 63 #[.agg #[.int .i64 ents,.slice (some ⟨b,off,none⟩) ks.length cap]] w
   fun e w'=>∃ sa sc,e=.returned (.agg #[.int .i64 ents,.slice sa ks.length sc])∧Below w.heap.size w w'∧KindsIn (fun b=>w.heap.size≤b∧b<w'.heap.size) w' (.slice sa ks.length sc) ks:=by
 go_enter Tryz.func63,Tryz.ntmps63
 go_wp2
 go_loopw [4,5] (fun i _ wr=>∃ (k:Nat) (vs:List Value) (oa:Option Addr) (oc:Nat),k≤ks.length∧i=.int .i64 k∧Below w.heap.size w wr∧Hid (wr.ownsRow (w.heap.size+1+1+1) 60 1 (.slice oa k oc) k vs) ∧
   CodesIn (w.heap.size+1+1+1) wr (.slice oa k oc) vs ks∧wr.cell? ⟨w.heap.size+1+1,0,none⟩=some (.int .i64 ents)∧wr.cell? ⟨w.heap.size+1+1,1,none⟩=some (.slice oa k oc)∧Room wr (w.heap.size+1+1) 2 ∧
   wr.cell? ⟨w.heap.size,1,none⟩=some (.slice (some ⟨b,off,none⟩) ks.length cap)∧Room wr (w.heap.size+1) 2∧w.heap.size+1+1<wr.heap.size) (fun i _ _=>ks.length-(intOf i).toNat)
 case atStart=>
  refine⟨0,[],none,0,by omega,rfl,(((Below.refl _ _).alloc (Nat.le_refl _) _).alloc (by simp) _).alloc (by simp;omega) _,World.ownsRow_nil _ _ _ _,by intro i v l hv;simp at hv,by simp[go_sem],by simp[go_sem],?_,by simp[go_sem],?_,by simp⟩
  ·intro j hj;have:j=0∨j=1:=by omega
   rcases this with rfl|rfl<;>simp[go_sem]
  ·intro j hj;have:j=0∨j=1:=by omega
   rcases this with rfl|rfl<;>simp[go_sem]
 case round=>
  obtain⟨k,vs,oa,oc,hk,rfl,hbel,hown,hC,ho0,ho1,hR2,hm1,hR1,hz⟩:=hrel
  by_cases hlt:k<ks.length
  ·obtain⟨v,hv0,hv⟩:=(hK.below hbel hbw (Nat.le_refl _)) k ks[k] (by simp)
   have Hs:=aB hv.src';have Hl:=aB hv.1;have hvs:vs.length=k:=by simpa using hown.out.1
   have Hvs:=aB hvs;clear hvs
   go_wp2_with (at_builtin;refine aD rfl (.tmp 16) (.tmp 21) 60 rfl wr.heap.size 59 (.agg #[.int .i64 0,.int .i64 0,.int .i64 0,.int .i64 0]) 4 32 Tryz.underlying60 Tryz.info59 rfl (by omega) _ 0 [] rfl (World.ownsRow_nil _ _ _ _) v ks[k].length (aO ks[k]) rfl Hs.out (cL _) (dH _) (by have:=Hl.out;omega) (by have:=Hl.out;omega) (by omega) ?_)
   intro v1 w1 hown1 hgr1 hwh1;have hb1:Below wr.heap.size wr w1:=(Below.refl _ _).grown hgr1.out (Nat.le_refl _) (by intro k hk;simp[Value.ownBlock]at hk)
   have hcode:=uY (l:=ks[k]) (by simpa using hown1.out) hv.1
   obtain⟨sa,sc,rfl⟩:=hcode.form;have HC:=aB hcode;clear hcode hown1 hgr1 hwh1;have hg0:=aA hb1 ho0 (by omega)
   have hg1:=aA hb1 ho1 (by omega)
   have hz1:=hb1.size;obtain⟨hs1,hf1⟩:=(hR2.below hb1 (by omega)) 1 (by omega)
   clear hs1
   go_wp2_with (at_builtin;refine aD rfl (.tmp 24) (.tmp 26) 36 rfl (w.heap.size+1+1+1) 60 (.slice none 0 0) 1 24 Tryz.underlying36 Tryz.info60 rfl (by omega) _ k vs rfl ((xQ hown.out hb1).alloc _) _ 1 [.slice sa ks[k].length sc] rfl (.inr (.inl ⟨w1.heap.size,0,_,rfl,?_⟩)) rfl (by simp[Value.oneCell']) (by omega) (by omega) (by simp;omega) ?_)
   ·intro j u hu;have:j=0:=by have:=(List.getElem?_eq_some_iff.1 hu).1;simp at this;omega
    subst this;simp at hu;subst hu;simp[go_sem]
   intro v2 w2 hown2 hgr2 hwh2;obtain⟨sa2,sc2,rfl⟩:=bF hown2.out;have hbW:=(Below.refl w1.heap.size w1).alloc (Nat.le_refl _) (.cells #[.slice sa ks[k].length sc] 60);have hst:=hC.step Hvs.out hlt hown.out hb1 HC.out hbW (by simp) (by omega) hgr2.out (v2:=.slice sa2 (k+1) sc2) (by have:=hwh2.out;simpa using this)
   have hb2:Below (w.heap.size+1+1+1) w1 w2:=(hbW.mono (by omega)).grown hgr2.out (by simp;omega) (fun b hb=>(hown.out.lt b hb).1)
   have hfz:=hb2.frozen (p:=⟨w.heap.size+1+1,1,none⟩) (by simp)
   rw[hf1]at hfz;have hg11:=aA hb2 hg1 (by omega)
   have hz2:=hb2.size;have HS:=aB hst;clear hst hf1
   go_wp2
   go_roundw
   case rel=>
    have hsz:(w2.setCell ⟨w.heap.size+1+1,1,none⟩ (.slice sa2 (k+1) sc2)).heap.size=w2.heap.size:=by simp[World.setCell]
    have ho:Only (·=w.heap.size+1+1) w2 (w2.setCell ⟨w.heap.size+1+1,1,none⟩ (.slice sa2 (k+1) sc2)):=Only.setCell (S:=(·=w.heap.size+1+1)) (Only.refl _ _) rfl _
    refine⟨k+1,vs++[.slice sa ks[k].length sc],sa2,sc2,by omega,by go_num,((hbel.trans (hb1.mono (by omega))).trans (hb2.mono (by omega))).setCell (by simp;omega) _,?_,?_,?_,?_,?_,?_,?_,?_⟩
    ·exact ownsRow_setCell_below hown2.out (by simp) _
    ·intro i v l hv hl;rw[hsz];exact(HS.out i v l hv hl).only ho (by intro b hb;omega)
    ·rw[World.cell?_setCell_other _ _ _ _ (by simp)];exact aA hb2 hg0 (by omega)
    ·exact World.cell?_setCell_same' _ _ _ (by rw[hg11];rfl)
    ·exact((hR2.below hb1 (by omega)).below hb2 (by omega)).setCell _ _
    ·rw[World.cell?_setCell_other _ _ _ _ (by simp;try omega)];exact aA hb2 (aA hb1 hm1 (by omega)) (by omega)
    ·exact((hR1.below hb1 (by omega)).below hb2 (by omega)).setCell _ _
    ·rw[hsz];omega
   case measure=>simp[intOf];omega
  ·have hk':k=ks.length:=by omega
   subst hk';obtain⟨s1,f1⟩:=hR1 0 (by omega)
   obtain⟨s2,f2⟩:=hR1 1 (by omega)
   obtain⟨u1,hu1⟩:=Option.isSome_iff_exists.1 s1;obtain⟨u2,hu2⟩:=Option.isSome_iff_exists.1 s2;clear s1 s2
   go_wp2
   refine bodyPost_ret (v:=.agg #[.int .i64 ents,.slice oa ks.length oc]) (by simp[results,Tryz.results63,go_sem,hu1,hu2]) rfl ⟨_,_,rfl,(hbel.setCell (by simp) _).setCell (by simp) _,?_⟩
   have ho:Only (·=w.heap.size+1) wr _:=((Only.refl (·=w.heap.size+1) wr).setCell (p:=⟨w.heap.size+1,0,none⟩) rfl (.int .i64 ents)).setCell (p:=⟨w.heap.size+1,1,none⟩) rfl (.slice oa ks.length oc)
   have hsz:((wr.setCell ⟨w.heap.size+1,0,none⟩ (.int .i64 ents)).setCell ⟨w.heap.size+1,1,none⟩ (.slice oa ks.length oc)).heap.size=wr.heap.size:=by simp[World.setCell]
   rcases bK hown.out with⟨hnil,h0,_⟩|⟨g,cap',hg,h1,h2,h3⟩
   ·exact⟨hl,.inl ⟨hnil,List.eq_nil_of_length_eq_zero h0⟩⟩
   ·have hvl:vs.length=ks.length:=by simpa using hown.out.1
    refine⟨hl,.inr ⟨g,0,cap',hg,by omega,?_⟩⟩
    intro i l hil;have hilt:i<ks.length:=(List.getElem?_eq_some_iff.1 hil).1;have hvi:vs[i]?=some vs[i]:=by simp[hvl,hilt]
    exact⟨_,ho.at (h3 i _ hvi) (by omega),((hC i _ l hvi hil).only ho (by intro b hb;omega)).mono (by intro b hb;omega)⟩
end Go.Proofs.YtndlmgocldckfaaGreat

namespace Go.Proofs.YtndlmgocldckfaaGreat
open Go.RowKit
theorem dF(n lo hi:Int)(w:World) :
  Calls Tryz.prog 57 #[.int .i64 n,.int .i64 lo,.int .i64 hi] w fun e w'=>e=.returned (.bool (inB n lo hi))∧w'=w:=by
 by_cases h1:lo≤n<;>by_cases h2:n≤hi
 all_goals
  go_enter Tryz.func57,Tryz.ntmps57
  go_wp2
  go_ret;exact⟨by simp[inB, *],rfl⟩
theorem mR(n:Int)(w:World) :
  Calls Tryz.prog 99 #[.int .i64 n] w fun e w'=>e=.returned (.bool (inB n (-1000000000) 1000000000))∧w'=w:=by
 go_enter Tryz.func99,Tryz.ntmps99
 go_wp2_with (go_at_call 57;refine(dF _ _ _ _).mono ?_;rintro e w' ⟨rfl,rfl⟩)
 go_ret;exact⟨rfl,rfl⟩
theorem eX(n:Int)(w:World) :
  Calls Tryz.prog 95 #[.int .i64 n] w fun e w'=>e=.returned (.bool (inB n 0 3))∧w'=w:=by
 go_enter Tryz.func95,Tryz.ntmps95
 go_wp2_with (go_at_call 57;refine(dF _ _ _ _).mono ?_;rintro e w' ⟨rfl,rfl⟩)
 go_ret;exact⟨rfl,rfl⟩
theorem aFa(ents:Int)(sa:Option Addr)(nk cap:Nat)(a b c:Int)(w:World)(he:1≤ents)(he':ents≤8)(hk:nk≤8) :
  Calls Tryz.prog 58 #[.agg #[.int .i64 ents,.slice sa nk cap],.agg #[.int .i64 6,.int .i64 a,.int .i64 b,.int .i64 c]] w
   fun e w'=>e=.returned (.bool (aX ents nk 6 a b c))∧Below w.heap.size w w':=by
 go_enter Tryz.func58,Tryz.ntmps58
 go_wp2_with (first|(go_at_call 95;refine(eX _ _).mono ?_;rintro e w' ⟨rfl,rfl⟩)|(go_at_call 57;refine(dF _ _ _ _).mono ?_;rintro e w' ⟨rfl,rfl⟩))
 all_goals
  go_ret;refine⟨?_,((Below.refl _ _).alloc (Nat.le_refl _) _).alloc (by simp) _⟩
  simp[aX, *]
theorem aC2(ents:Int)(sa:Option Addr)(nk cap:Nat)(op a b c:Int)(w:World)(h6:op≠6) :
  Calls Tryz.prog 58 #[.agg #[.int .i64 ents,.slice sa nk cap],.agg #[.int .i64 op,.int .i64 a,.int .i64 b,.int .i64 c]] w
   fun e w'=>e=.returned (.bool (aX ents nk op a b c))∧Below w.heap.size w w':=by
 have h6':(op != 6)=true:=by simpa using h6
 by_cases hc:c=0
 ·subst hc
  go_enter Tryz.func58,Tryz.ntmps58
  go_wp2_with (first|(go_at_call 95;refine(eX _ _).mono ?_;rintro e w' ⟨rfl,rfl⟩)|(go_at_call 99;refine(mR _ _).mono ?_;rintro e w' ⟨rfl,rfl⟩)|(go_at_call 57;refine(dF _ _ _ _).mono ?_;rintro e w' ⟨rfl,rfl⟩))
  all_goals
   go_ret;refine⟨?_,((Below.refl _ _).alloc (Nat.le_refl _) _).alloc (by simp) _⟩
   simp_all [aX]
 ·have hc':(c != 0)=true:=by simpa using hc
  go_enter Tryz.func58,Tryz.ntmps58
  go_wp2_with (first|(go_at_call 95;refine(eX _ _).mono ?_;rintro e w' ⟨rfl,rfl⟩)|(go_at_call 99;refine(mR _ _).mono ?_;rintro e w' ⟨rfl,rfl⟩)|(go_at_call 57;refine(dF _ _ _ _).mono ?_;rintro e w' ⟨rfl,rfl⟩))
  go_ret;refine⟨?_,((Below.refl _ _).alloc (Nat.le_refl _) _).alloc (by simp) _⟩
  simp_all [aX]
theorem aFb(ents:Int)(sa:Option Addr)(nk cap:Nat)(op a b c:Int)(w:World)(he:1≤ents)(he':ents≤8)(hk:nk≤8) :
  Calls Tryz.prog 58 #[.agg #[.int .i64 ents,.slice sa nk cap],.agg #[.int .i64 op,.int .i64 a,.int .i64 b,.int .i64 c]] w
   fun e w'=>e=.returned (.bool (aX ents nk op a b c))∧Below w.heap.size w w':=by
 by_cases h6:op=6
 ·subst h6;exact aFa ents sa nk cap a b c w he he' hk
 ·exact aC2 ents sa nk cap op a b c w h6
end Go.Proofs.YtndlmgocldckfaaGreat

namespace Go.Proofs.YtndlmgocldckfaaGreat
open Go.RowKit
set_option linter.unusedVariables false
set_option linter.unusedSimpArgs false
set_option maxRecDepth 100000
set_option maxHeartbeats 4000000
theorem oY(ents:Int)(sa:Option Addr)(nk cap:Nat)(w:World)(hno:(!inB ents 1 8||!inB nk 1 8)=true) :
  Calls Tryz.prog 23 #[.agg #[.int .i64 ents,.slice sa nk cap]] w
   fun e w'=>e=.returned (.tuple #[.int .i64 2,.int .i64 0,.int .i64 0])∧Below w.heap.size w w':=by
 rcases h1:inB ents 1 8 with _|_<;>rcases h2:inB nk 1 8 with _|_
 case true.true=>simp[h1,h2]at hno
 all_goals
  clear hno
  go_enter Tryz.func23,Tryz.ntmps23
  go_wp2_with (go_at_call 57;refine(dF _ _ _ _).mono ?_;rintro e w' ⟨rfl,rfl⟩)
  go_ret3
  exact⟨rfl,(Below.refl _ _).alloc (Nat.le_refl _) _⟩
theorem aA0(ents:Int)(b off cap:Nat)(ks:List (List Ins))(w:World)(he:1≤ents)(he':ents≤8)(hk:1≤ks.length)(hk':ks.length≤8)
  (hbw:b<w.heap.size) (hK:KindsAt w.heap.size w b off ks) :
  Calls Tryz.prog 23 #[.agg #[.int .i64 ents,.slice (some ⟨b,off,none⟩) ks.length cap]] w
   fun e w'=>e=.returned (bO ents ks)∧Below w.heap.size w w':=by
 have h1:inB ents 1 8=true:=by simp[inB];omega
 have h2:inB ks.length 1 8=true:=by simp[inB];omega
 have hF:Hid (bE ents ks=bM ents ks.length ks 0):=by show _=_;simp[bE,h1,h2]
 go_enter Tryz.func23,Tryz.ntmps23
 go_wp2_with (go_at_call 57;refine(dF _ _ _ _).mono ?_;rintro e w' ⟨rfl,rfl⟩)
 go_loopw [7,8,9] (fun i _ _ wr=>∃ n:Nat,n≤ks.length∧i=.int .i64 n∧Hid (bM ents ks.length (ks.drop n) n=bM ents ks.length ks 0)∧Below w.heap.size w wr∧wr.cell? ⟨w.heap.size,0,none⟩=some (.int .i64 ents)∧wr.cell? ⟨w.heap.size,1,none⟩=some (.slice (some ⟨b,off,none⟩) ks.length cap)∧w.heap.size<wr.heap.size) (fun i _ _ _=>ks.length-(intOf i).toNat)
 case atStart=>exact⟨0,Nat.zero_le _,rfl,rfl,(Below.refl _ _).alloc (Nat.le_refl _) _,by simp[go_sem],by simp[go_sem],by simp⟩
 case round=>
  obtain⟨n,hn,rfl,hfb,hbel,hc0,hc1,hsz⟩:=hrel
  by_cases hlt:n<ks.length
  ·have hKr:=hK.below hbel hbw (Nat.le_refl _);obtain⟨v,hv0,hv⟩:=hKr n ks[n] (by simp)
   have hd:=lU (ents:=ents) (nk:=ks.length) hlt;generalize ks[n]=l at hv hd;obtain⟨hl,hv'⟩:=hv;obtain⟨sb,sc,rfl⟩:∃ sb sc,v=.slice sb l.length sc:=by
    obtain⟨rfl,rfl⟩|⟨b',off',cap',rfl,hb',hc'⟩|⟨va,vc,rfl,rfl⟩:=hv'
    ·exact⟨_,_,rfl⟩
    ·exact⟨_,_,rfl⟩
    ·exact⟨_,_,rfl⟩
   by_cases hl16:l.length≤16
   ·have h16:decide (16<(l.length:Int))=false:=by simp;omega
    have hFc:gR ents ks.length l=cK ents ks.length l 0:=by rw[gR,if_neg (by omega)]
    rw[hFc]at hd;have HD:=aB hd;clear hd hFc;obtain⟨w1,hw1⟩:∃ w1,w1=wr:=⟨_,rfl⟩;subst hw1
    go_wp2
    go_loopw [8,9] (fun j _ w2=>∃ m:Nat,m≤l.length∧j=.int .i64 m∧Hid (cK ents ks.length (l.drop m) m=cK ents ks.length l 0)∧Below w1.heap.size w1 w2) (fun j _ _=>l.length-(intOf j).toNat)
    case atStart=>exact⟨0,Nat.zero_le _,rfl,rfl,Below.refl _ _⟩
    case round=>
     obtain⟨m,hm,rfl,hfm,hbel2⟩:=hrel;have gc0:=aA hbel2 hc0 hsz;have gc1:=aA hbel2 hc1 hsz;have gv0:=aA hbel2 hv0 (Nat.lt_trans hbw hsz)
     by_cases hlm:m<l.length
     ·obtain⟨_,rfl⟩|⟨b',off',cap',hsb,hb',hc'⟩|⟨va,vc,_,rfl⟩:=hv';rotate_left
      ·simp only[Value.slice.injEq]at hsb;obtain⟨rfl,-,rfl⟩:=hsb;obtain⟨hx0,hx1,hx2,hx3⟩:=(hc'.below hbel2 (Nat.lt_trans hb' hsz)) m l[m] (by simp)
       have hbz:w.heap.size<wr.heap.size:=by have:=hbel2.size;omega
       have hdm:=nE (ents:=ents) (nk:=ks.length) hlm;have HT:Hid (aX ents ks.length l[m].op l[m].a l[m].b l[m].c=true→cK ents ks.length (l.drop (m+1)) (m+1)=cK ents ks.length l 0):=by
        intro h;rw[←hfm.out,hdm,if_pos h]
       have HN:Hid (¬aX ents ks.length l[m].op l[m].a l[m].b l[m].c=true→bE ents ks=some (n,m)):=by
        intro h;rw[if_neg h,hfm.out]at hdm;rw[hF.out,←hfb.out,HD.out,hdm]
       clear hdm hc' hv0 hc0 hc1
       go_wp2
       go_region_with (go_at_call 58;refine(aFb _ _ _ _ _ _ _ _ _ he he' hk').mono ?_;rintro e w3 ⟨rfl,hb3⟩)
       all_goals
        have hb4:Below wr.heap.size wr w3:=((Below.refl _ _).drew).trans hb3;clear hb3
        go_wp2
        ·go_ret3
         exact⟨by simp[bO,HN.out (by simp_all)],hbel.trans ((hbel2.mono (by omega)).trans (hb4.mono (by omega)))⟩
        ·go_roundw
         case rel=>exact⟨m+1,by omega,by go_num,HT.out (by simp_all),hbel2.trans (hb4.mono (by have:=hbel2.size;omega))⟩
         case measure=>simp[intOf];omega
      ·simp at hlm
      ·simp at hlm
     ·have hdm:Hid (bM ents ks.length (ks.drop (n+1)) (n+1)=bM ents ks.length ks 0):=by
       show _=_;have:=HD.out;have hl0:l.drop m=[]:=List.drop_of_length_le (by omega)
       rw[←hfm.out,hl0]at this;rw[←hfb.out,this];rfl
      go_wp2
      go_roundw
      case rel=>exact⟨n+1,by omega,by go_num,hdm,hbel.trans (hbel2.mono (by omega)),gc0,gc1,by have:=hbel2.size;omega⟩
      case measure=>simp[intOf];omega
   ·have h16:decide (16<(l.length:Int))=true:=by simp;omega
    have hd':Hid (bE ents ks=some (n,0)):=by
     show _=_;rw[gR,if_pos (by omega)]at hd;rw[hF.out,←hfb.out,hd]
    clear hd
    go_wp2
    go_ret3
    exact⟨by simp[bO,hd'.out],hbel⟩
  ·have hd':Hid (bE ents ks=none):=by
    show _=_;rw[hF.out,←hfb.out,List.drop_of_length_le (by omega)];rfl
   go_wp2
   go_ret3
   exact⟨by simp[bO,hd'.out],hbel⟩
theorem fO(ents:Int)(v:Value)(ks:List (List Ins))(w:World)(hv:KindsV w.heap.size w v ks) :
  Calls Tryz.prog 23 #[.agg #[.int .i64 ents,v]] w
   fun e w'=>e=.returned (bO ents ks)∧Below w.heap.size w w':=by
 rcases hno:(!inB ents 1 8||!inB ks.length 1 8)with _|_
 ·simp[inB]at hno;obtain⟨_,⟨rfl,rfl⟩|⟨b,off,cap',rfl,hb,hc⟩|⟨va,vc,rfl,rfl⟩⟩:=hv;rotate_left
  ·exact aA0 ents b off cap' ks w (by omega) (by omega) (by omega) (by omega) hb hc
  ·simp at hno
  ·simp at hno
 ·have hV:bO ents ks=.tuple #[.int .i64 2,.int .i64 0,.int .i64 0]:=by simp[bO,bE,hno]
  rw[hV];obtain⟨_,⟨rfl,rfl⟩|⟨b,off,cap',rfl,hb,hc⟩|⟨va,vc,rfl,rfl⟩⟩:=hv
  ·exact oY ents none 0 0 w (by simpa using hno)
  ·exact oY ents _ ks.length cap' w hno
  ·exact oY ents _ 0 vc w (by simpa using hno)
end Go.Proofs.YtndlmgocldckfaaGreat
