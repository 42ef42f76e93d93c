import Derived.Test.YtndlmgocldckfaaGreatG10
import Derived.Deep.RegionLaw
import Derived.Deep.RegionHeld3
import Derived.Test.YtndlmgocldckfaaGreatG01
namespace Go.Proofs.YtndlmgocldckfaaGreat
open Go.RowKit
set_option linter.unusedVariables false
set_option linter.unusedSimpArgs false
set_option maxRecDepth 100000
set_option maxHeartbeats 4000000
theorem cQ{P:Program}{w:World}{ops:Array Oper}{o:Oper}{a:Act}{K:Act→World→Prop}{Q:Exit→Act→World→Prop}{E:Prop}(hgd:o.guard=none)(s x:Operand)(t:TypeId)
  (ho:o.op=.call {callee:=.builtin .append,args:=#[s,x],argTypes:=#[t,t]})
  (base:Nat) (e:TypeId) (z:Value) (size bytes:Nat) (ht:P.underlying t=some (.slice e)) (hinfo:(P.info? e).map (fun i=>(i.zero,i.size,i.bytes))=some (some z,size,bytes))
  (hzs:z.cells.size=size) (hsz:0<size)
  (v:Value) (n:Nat) (xs:List Value) (hs:a.eval s=v) (hown:w.ownsRow base e size v n xs)
  (sv:Value) (m:Nat) (news:List Value) (hx:a.eval x=sv) (hsrc:eO w sv m news) (hl:news.length=m*size) (h1:∀ u∈news,u.oneCell'=true)
  (hbytes:(n+m)*bytes≤140737488355328) (h63:n+m≤9223372036854775807) (hbase:base≤w.heap.size)
  (h:∀ v' w',Hid (w'.ownsRow base e size v' (n+m) (xs++news))→Hid (w.grownBy w' v.ownBlock)→Hid (v'.ownBlock=v.ownBlock∨v'.ownBlock=some w.heap.size)→K (a.put o.dst v') w') :
  if Region.wanted o (yielded ops a.tmps)=true then Oper.wp P o a w K Q else E:=by
 have hw:Region.wanted o (yielded ops a.tmps)=true:=by simp[Region.wanted,hgd]
 rw[if_pos hw];obtain⟨i,hi,hz,hsz',hby⟩:=info_parts hinfo;have hsrc':(sv=.slice none 0 0∧m=0∧news=[])∨∃ ad c,sv=.slice (some ad) m c∧∀ j u,news[j]?=some u→w.cell? (Addr.add ad j)=some u:=by
  rcases hsrc with h|⟨b,off,c,h,hrow⟩|⟨ad,c,h,h0⟩
  ·exact .inl h
  ·exact .inr ⟨⟨b,off,none⟩,c,h,fun j u hu=>by rw[Addr.add_lit];exact hrow j u hu⟩
  ·exact .inr ⟨ad,c,h,fun j u hu=>by rw[h0]at hu;simp at hu⟩
 rcases hsrc' with⟨rfl,rfl,rfl⟩|⟨ad,c,rfl,hnews⟩
 ·subst hsz';have hr:=run_append_owned_none (P:=P) w base t o.type e i i.size ht hi v n xs hown;unfold Oper.wp;simp[execOp,ho,resolve,invoke,builtin,hs,hx,hr,Result.andThen];exact h v w (by show World.ownsRow _ _ _ _ _ _ _;simpa using hown) ⟨rfl,rfl,rfl,Nat.le_refl _,fun _ _ _=>rfl⟩ (.inl rfl)
 ·subst hsz';subst hby;obtain⟨v',w',hr,h2,h3,h4⟩:=run_append_own (P:=P) w base t o.type e i z i.size i.bytes ht hi hz rfl rfl hzs hsz v n xs hown ad m c news hl hnews h1 (by simp only[maxLen];omega) hbytes hbase
  have h5:=kC base t o.type e i z ht hi hz v n xs hown ad m c news hl hnews h1 h63 hbytes v' w' hr;unfold Oper.wp;simp[execOp,ho,resolve,invoke,builtin,hs,hx,hr,Result.andThen];exact h v' w' h2 h3 h5
theorem OrdV.src{base:Nat}{w:World}{v:Value}{n:Nat}{f:Nat→Mom}(h:OrdV base w v n f):eO w v n (cA f n):=by
 rcases h with⟨rfl,rfl⟩|⟨b,cap,rfl,h0,h1,h2,cur,h3,h4,h5⟩
 ·exact .inl ⟨rfl,rfl,rfl⟩
 ·refine .inr (.inl ⟨b,0,cap,rfl,?_⟩);intro j u hu;have hj:j<n*2:=by have:=(List.getElem?_eq_some_iff.1 hu).1;rwa [bQ]at this
  rw[←h5.cells (by rw[h4];exact Nat.mul_le_mul_right _ h1),List.getElem?_take,if_pos hj]at hu
  simpa [World.cell?,h3]using hu
theorem OrdV.zero{base:Nat}{w:World}{sa:Option Addr}{sc n:Nat}{f:Nat→Mom}(h:OrdV base w (.slice sa n sc) n f):w.ownsRow base 186 2 (.slice sa 0 sc) 0 []:=by
 rcases h with⟨h,rfl⟩|⟨b,cap,h,h0,h1,h2,cur,h3,h4,h5⟩
 ·simp only[Value.slice.injEq]at h;obtain⟨rfl,_,rfl⟩:=h;exact⟨rfl,.inl ⟨rfl,rfl⟩⟩
 ·simp only[Value.slice.injEq]at h;obtain⟨rfl,_,rfl⟩:=h;exact⟨rfl,.inr ⟨b,sc,cur,rfl,h0,h3,by omega,h2,h4,by simp⟩⟩
theorem vU{W:World}{mb:Nat}{es:Array MapEntry}{clock:Nat}(hb:W.heap[mb]?=some (.map es clock))(ty:TypeId) :
  (Builtin.clear_ #[152] ty #[.map (some mb)]).run Tryz.prog W=.ok (.tuple #[]) (cW W mb #[] clock):=by
 simp[Builtin.clear_,run_underlying Tryz.underlying152,MapKept.run_getObj_map hb,MapKept.run_setObj_map _ hb,Result.andThen,cW]
theorem sW{base base':Nat}(qb mb qb' mb':Nat)(ov ov':Value)(q q':List Ev)(w:World)(h:QueP base w qb mb ov q)(h':QueP base' w qb' mb' ov' q')(hbase:base≤w.heap.size)(hap:∀ b,dV qb mb ov b→¬dV qb' mb' ov' b) :
  Calls Tryz.prog 127 #[.pointer (some ⟨qb,0,none⟩),.pointer (some ⟨qb',0,none⟩)] w
   fun e w'=>∃ ov2,e=.returned (.tuple #[])∧Only (dV qb mb ov) w w'∧QueP base w' qb mb ov2 q'∧Moved w ov ov2:=by
 obtain⟨es,clock,hm,hq⟩:=h.map;obtain⟨es',clock',hm',hq'⟩:=h'.map;obtain⟨f,ho,hh,hf⟩:=h.ord;obtain⟨f',ho',hh',hf'⟩:=h'.ord;have h0:=h.c0;have h1:=h.c1;have ht:=h.thaw;have h0':=h'.c0;have h1':=h'.c1;have hqb:=aC h0;have hqb':=aC h0';have hmb:mb<w.heap.size:=(Array.getElem?_eq_some_iff.1 hm).1;have hmb':mb'<w.heap.size:=(Array.getElem?_eq_some_iff.1 hm').1;have hmm:mb≠mb':=fun e=>hap mb (.inr (.inl rfl)) (by rw[e];exact .inr (.inl rfl))
 have hqm:=h.qm;have hq'm:qb'≠mb:=fun e=>hap mb (.inr (.inl rfl)) (by rw[←e];exact .inl rfl)
 have hqo:=h.qo;have hmo:=h.mo;have hmo':some mb≠ov'.ownBlock:=fun e=>hap mb (.inr (.inl rfl)) (.inr (.inr e));obtain⟨sa,sc,rfl⟩:=ho.form;obtain⟨sa',sc',rfl⟩:=ho'.form;have hrun:=vU hm 3;have Hl':=aB h'.len;have Hs':=aB h'.sorted;have Hd':=aB h'.distinct;have Hq':=aB hq';have Hh':=aB hh';have Hf':=aB hf';have Hm':=aB hm';have Hqo:=aB hqo;have Hmo:=aB hmo;have Hmo':=aB hmo';have ho1:=iC w mb #[] clock;have hz1:=iD w mb #[] clock;have hm1:=lB hmb #[] clock;have hrun:∀ ty,(Builtin.clear_ #[152] ty #[.map (some mb)]).run Tryz.prog w=.ok (.tuple #[]) (cW w mb #[] clock):=fun ty=>vU hm ty;generalize cW w mb #[] clock=w1 at ho1 hz1 hm1 hrun;have Hm1:=aB hm1;have Ho1:=aB ho1;have HO:=aB ho;have HO':=aB ho';clear hm hq hm' hq' ho hh hf ho' hh' hf' h h' hm1 hqo hmo hmo' ho1;have g0:=Ho1.out.at h0 hqm;have g0':=Ho1.out.at h0' hq'm
 go_enter Tryz.func127,Tryz.ntmps127
 have hms1:w1.heap[mb']?=some (.map es' clock'):=(Ho1.out.block mb' hmb' (Ne.symm hmm)).trans Hm'.out;have Hms1:=aB hms1;clear hms1
 go_wp2
 go_region_held3 (fun W'=>W'.cell? ⟨qb,0,none⟩=some (.map (some mb))∧W'.cell? ⟨qb',0,none⟩=some (.map (some mb')))
  (first|go_keep|exact⟨ho2.at (w:=w1.drew) g0 hqm,ho2.at (w:=w1.drew) g0' hq'm⟩)
  (first|(go_at_call 133;refine(xF mb mb' es' clock' clock q' w1.drew hmm Hm1.out Hms1.out Hq'.out Hd'.out).mono ?_;rintro e w2 ⟨rfl,ho2,es2,c2,hm2,hq2⟩))
 all_goals
  have ho3:Only (·=mb) w w2:=Ho1.out.trans ⟨ho2.os,ho2.tape,ho2.output,ho2.size,ho2.block⟩
  have hz3:=ho3.size;have k0:=ho3.at h0 hqm;have k1:=ho3.at h1 hqm;have k1':=ho3.at h1' hq'm;have kt:w2.frozen? ⟨qb,1,none⟩=false:=by
   rw[World.frozen?_of_block (w:=w) (a:=⟨qb,1,none⟩) (ho3.block qb hqb hqm)];exact ht
  have HZ:=aB ((HO.out.only ho3 (fun b hb hc=>by subst hc;exact Hmo.out hb)).zero)
  have HSr:=aB (((HO'.out.only ho3 (fun b hb hc=>by subst hc;exact Hmo'.out hb))).src)
  have Ho3:=aB ho3;have Hm2:=aB hm2;have Hq2:=aB hq2;clear ho2 ho3 hm2 hq2 g0 g0' h0 h0' h1 h1' ht hrun Ho1;have hl':=Hl'.out;have own0:(Value.slice sa 0 sc).ownBlock=(Value.slice sa q.length sc).ownBlock:=by cases sa<;>rfl
  have Hq0:Hid (¬some qb=(Value.slice sa 0 sc).ownBlock):=by show ¬_;rw[own0];exact Hqo.out
  have Hq0':Hid (¬some qb'=(Value.slice sa 0 sc).ownBlock):=by show ¬_;rw[own0];exact fun e=>hap qb' (.inr (.inr e)) (.inl rfl)
  have Hm0:Hid (¬some mb=(Value.slice sa 0 sc).ownBlock):=by show ¬_;rw[own0];exact Hmo.out
  have Own0:=aB own0;clear own0
  go_wp2
  go_region_law (first|(refine cQ rfl (.tmp 22) (.tmp 26) 154 rfl base 186 (.agg #[.int .i64 0,.int .i64 0]) 2 16 Tryz.underlying154 Tryz.infoM rfl (by omega) (.slice sa 0 sc) 0 [] rfl (show World.ownsRow w2.drew _ _ _ _ _ _ from HZ.out) (.slice sa' q'.length sc') q'.length (cA f' q'.length) rfl (show eO w2.drew _ _ _ from HSr.out) (bQ _ _) (oM _ _) (by omega) (by omega) (by simp;omega) ?_;intro v4 w4 hown4 hgr4 hwh4;(have ho4:Only (fun b=>some b=(Value.slice sa 0 sc).ownBlock) w2 w4:=⟨hgr4.out.os,hgr4.out.tape,hgr4.out.output,hgr4.out.size,hgr4.out.block⟩);(have kk1:=ho4.at k1 Hq0.out);(have kk1':=ho4.at k1' Hq0'.out);(have kk0:=ho4.at k0 Hq0.out);(have kkt:w4.frozen? ⟨qb,1,none⟩=false:=(World.frozen?_of_block (w:=w2) (a:=⟨qb,1,none⟩) (ho4.block qb (by omega) Hq0.out)).trans kt);(have hO4:OrdV base w4 v4 q'.length f':=OrdV.of (by simpa using hown4.out));obtain⟨sa4,sc4,rfl⟩:=hO4.form))
  all_goals
   go_end0
   have hz4:=ho4.size;have hmv:Moved w (.slice sa q.length sc) (.slice sa4 q'.length sc4):=by
    rcases hwh4.out with e|e
    ·exact .inl (e.trans Own0.out)
    ·exact .inr ⟨_,e,by simp;omega⟩
   have hnq:some qb≠(Value.slice sa4 q'.length sc4).ownBlock:=by
    rcases hmv with e|⟨g,e,hg⟩
    ·rw[e];exact Hqo.out
    ·rw[e];simp;omega
   have hnm:some mb≠(Value.slice sa4 q'.length sc4).ownBlock:=by
    rcases hmv with e|⟨g,e,hg⟩
    ·rw[e];exact Hmo.out
    ·rw[e];simp;omega
   refine⟨_,rfl,?_,⟨?_,?_,?_,⟨es2,c2,?_,Hq2.out⟩,⟨f',?_,Hh'.out,Hf'.out⟩,hqm,hnq,hnm,Hs'.out,Hd'.out,Hl'.out⟩,hmv⟩
   ·exact((Ho3.out.mono (fun k _ hk=>.inr (.inl hk))).trans (ho4.mono (fun k _ hk=>.inr (.inr (hk.trans Own0.out))))).setCell (.inl rfl) _
   ·rw[World.cell?_setCell_other _ _ _ _ (by simp)];exact kk0
   ·exact World.cell?_setCell_same _ _ _ kk1
   ·rw[World.frozen?_setCell];exact kkt
   ·rw[Below.heap_setCell _ _ _ _ (by exact Ne.symm hqm),ho4.block mb (by omega) Hm0.out];exact Hm2.out
   ·exact hO4.only (U:=(·=qb)) (Only.setCell (S:=(·=qb)) (Only.refl _ _) (p:=⟨qb,1,none⟩) rfl _) (fun b hb hc=>by subst hc;exact hnq hb)
theorem bZ(n lo hi:Int)(w:World) :
  Calls Tryz.prog 97 #[.int .i64 n,.int .i64 lo,.int .i64 hi] w fun e w'=>e=.returned (.bool (inB n lo hi))∧w'=w:=by
 by_cases h1:lo≤n<;>by_cases h2:n≤hi
 all_goals
  go_enter Tryz.func97,Tryz.ntmps97
  go_wp2
  go_ret;exact⟨by simp[inB, *],rfl⟩
theorem lX(n:Int)(w:World) :
  Calls Tryz.prog 131 #[.int .i64 n] w fun e w'=>e=.returned (.bool (inB n (-1000000000) 1000000000))∧w'=w:=by
 go_enter Tryz.func131,Tryz.ntmps131
 go_wp2_with (go_at_call 97;refine(bZ _ _ _ _).mono ?_;rintro e w' ⟨rfl,rfl⟩)
 go_ret;exact⟨rfl,rfl⟩
theorem gA(n:Int)(w:World) :
  Calls Tryz.prog 94 #[.int .i64 n] w fun e w'=>e=.returned (.bool (inB n 0 3))∧w'=w:=by
 go_enter Tryz.func94,Tryz.ntmps94
 go_wp2_with (go_at_call 97;refine(bZ _ _ _ _).mono ?_;rintro e w' ⟨rfl,rfl⟩)
 go_ret;exact⟨rfl,rfl⟩
theorem pT(n:Int)(w:World) :
  Calls Tryz.prog 101 #[.int .i64 n] w fun e w'=>e=.returned (.bool (!inB n 0 1000000000))∧w'=w:=by
 go_enter Tryz.func101,Tryz.ntmps101
 go_wp2_with (go_at_call 97;refine(bZ _ _ _ _).mono ?_;rintro e w' ⟨rfl,rfl⟩)
 go_ret;exact⟨rfl,rfl⟩
theorem jI(ents:Int)(sa:Option Addr)(nk cap:Nat)(n:Int)(w:World)(hk:nk≤8) :
  Calls Tryz.prog 83 #[.agg #[.int .i64 ents,.slice sa nk cap],.int .i64 n] w fun e w'=>e=.returned (.bool (inB n 0 (nk-1)))∧Below w.heap.size w w':=by
 go_enter Tryz.func83,Tryz.ntmps83
 go_wp2_with (go_at_call 97;refine(bZ _ _ _ _).mono ?_;rintro e w' ⟨rfl,rfl⟩)
 go_ret;exact⟨rfl,(Below.refl _ _).alloc (Nat.le_refl _) _⟩
theorem eH(ents:Int)(sa:Option Addr)(nk cap:Nat)(n:Int)(w:World)(he:1≤ents)(he':ents≤8) :
  Calls Tryz.prog 84 #[.agg #[.int .i64 ents,.slice sa nk cap],.int .i64 n] w fun e w'=>e=.returned (.bool (inB n 0 (ents-1)))∧Below w.heap.size w w':=by
 go_enter Tryz.func84,Tryz.ntmps84
 go_wp2_with (go_at_call 97;refine(bZ _ _ _ _).mono ?_;rintro e w' ⟨rfl,rfl⟩)
 go_ret;exact⟨rfl,(Below.refl _ _).alloc (Nat.le_refl _) _⟩
theorem xW(ents:Int)(sa:Option Addr)(nk cap:Nat)(op a b c:Int)(w:World)(h6:op≠6) :
  Calls Tryz.prog 119 #[.agg #[.int .i64 ents,.slice sa nk cap],.agg #[.int .i64 op,.int .i64 a,.int .i64 b,.int .i64 c]] w
   fun e w'=>e=.returned (.bool (aX ents nk op a b c))∧Below w.heap.size w w':=by
 have h6':(op==6)=false:=by simpa using h6
 go_enter Tryz.func119,Tryz.ntmps119
 go_wp2_with (first|(go_at_call 94;refine(gA _ _).mono ?_;rintro e w' ⟨rfl,rfl⟩)|(go_at_call 131;refine(lX _ _).mono ?_;rintro e w' ⟨rfl,rfl⟩)|(go_at_call 97;refine(bZ _ _ _ _).mono ?_;rintro e w' ⟨rfl,rfl⟩))
 all_goals
  go_ret;refine⟨?_,((Below.refl _ _).alloc (Nat.le_refl _) _).alloc (by simp) _⟩
  simp_all [aX]<;>exact Bool.eq_iff_iff.2 (by simp)
theorem aC3(ents:Int)(sa:Option Addr)(nk cap:Nat)(a b c:Int)(w:World)(he:1≤ents)(he':ents≤8)(hk:nk≤8) :
  Calls Tryz.prog 119 #[.agg #[.int .i64 ents,.slice sa nk cap],.agg #[.int .i64 6,.int .i64 a,.int .i64 b,.int .i64 c]] w
   fun e w'=>e=.returned (.bool (aX ents nk 6 a b c))∧Below w.heap.size w w':=by
 go_enter Tryz.func119,Tryz.ntmps119
 go_wp2_with (first|(go_at_call 83;refine(jI _ _ _ _ _ _ hk).mono ?_;rintro e w' ⟨rfl,hb⟩;obtain⟨hc,hf⟩:=aG3 hb;have hz:w.heap.size+1<w'.heap.size:=(by have:=hb.size;simp at this;omega))|(go_at_call 84;refine(eH _ _ _ _ _ _ he he').mono ?_;rintro e w' ⟨rfl,hb2⟩;obtain⟨hc2,hf2⟩:=aG3 hb2)|(go_at_call 94;refine(gA _ _).mono ?_;rintro e w' ⟨rfl,rfl⟩))
 all_goals
  go_ret;refine⟨by simp_all [aX],?_⟩
  clear hc hf
  first
   | exact(((Below.refl _ _).alloc (Nat.le_refl _) _).alloc (by simp) _).trans ((hb.mono (by simp;omega)).trans (hb2.mono (by have:=hb.size;simp at this ⊢;omega)))
   | exact(((Below.refl _ _).alloc (Nat.le_refl _) _).alloc (by simp) _).trans (hb.mono (by simp;omega))
theorem aC4(ents:Int)(sa:Option Addr)(nk cap:Nat)(op a b c:Int)(w:World)(he:1≤ents)(he':ents≤8)(hk:nk≤8) :
  Calls Tryz.prog 119 #[.agg #[.int .i64 ents,.slice sa nk cap],.agg #[.int .i64 op,.int .i64 a,.int .i64 b,.int .i64 c]] w
   fun e w'=>e=.returned (.bool (aX ents nk op a b c))∧Below w.heap.size w w':=by
 by_cases h6:op=6
 ·subst h6;exact aC3 ents sa nk cap a b c w he he' hk
 ·exact xW ents sa nk cap op a b c w h6
theorem rL(ents:Int)(sa:Option Addr)(nk cap:Nat)(b off cap':Nat)(l:List Ins)(w:World)(he:1≤ents)(he':ents≤8)(hk:nk≤8)
  (hl:l.length≤16) (hbw:b<w.heap.size) (hc:CodeAt w b off l) :
  Calls Tryz.prog 98 #[.agg #[.int .i64 ents,.slice sa nk cap],.slice (some ⟨b,off,none⟩) l.length cap'] w
   fun e w'=>e=.returned (.tuple #[.int .i64 ((gR ents nk l).getD 0:Nat),.bool (gR ents nk l).isNone])∧Below w.heap.size w w':=by
 have h16:decide (16<(l.length:Int))=false:=by simp;omega
 have hF:Hid (gR ents nk l=cK ents nk l 0):=by show _=_;rw[gR,if_neg (by omega)]
 go_enter Tryz.func98,Tryz.ntmps98
 go_wp2
 go_loopw [13,7,6] (fun i p k wr=>∃ n:Nat,n≤l.length∧i=.int .i64 n∧Hid (cK ents nk (l.drop n) n=cK ents nk l 0)∧Below w.heap.size w wr∧wr.cell? ⟨w.heap.size,0,none⟩=some (.int .i64 ents)∧wr.cell? ⟨w.heap.size,1,none⟩=some (.slice sa nk cap)∧w.heap.size<wr.heap.size) (fun i _ _ _=>l.length-(intOf i).toNat)
 case atStart=>exact⟨0,Nat.zero_le _,rfl,rfl,(Below.refl _ _).alloc (Nat.le_refl _) _,by simp[go_sem],by simp[go_sem],by simp⟩
 case round=>
  obtain⟨n,hn,rfl,hfb,hbel,hc0,hc1,hsz⟩:=hrel
  by_cases hlt:n<l.length
  ·obtain⟨hx0,hx1,hx2,hx3⟩:=(hc.below hbel hbw) n l[n] (by simp)
   go_wp2_with fail
   refine(aC4 _ _ _ _ _ _ _ _ _ he he' hk).mono ?_;rintro e w1 ⟨rfl,hb1⟩;have hb2:Below wr.heap.size wr w1:=((Below.refl _ _).alloc (Nat.le_refl _) _).trans (hb1.mono (by simp))
   have hd:=nE (ents:=ents) (nk:=nk) hlt;rcases hm:aX ents nk l[n].op l[n].a l[n].b l[n].c with _|_
   ·rw[hm]at hd;have hd':Hid (gR ents nk l=some n):=by show _=_;rw[hF.out,←hfb.out,hd];rfl
    clear hd
    go_wp2
    go_ret2;refine⟨by rw[hd'.out];rfl,hbel.trans (hb2.mono (by omega))⟩
   ·rw[hm,if_pos rfl]at hd;have hd':Hid (cK ents nk (l.drop (n+1)) (n+1)=cK ents nk l 0):=by show _=_;rw[←hfb.out,hd]
    clear hd
    go_wp2
    go_roundw
    case rel=>exact⟨n+1,by omega,by go_num,hd',hbel.trans (hb2.mono (by omega)),aA hb2 hc0 hsz,aA hb2 hc1 hsz,by have:=hb2.size;omega⟩
    case measure=>simp[intOf];omega
  ·have hd':Hid (gR ents nk l=none):=by
    show _=_;rw[hF.out,←hfb.out,List.drop_of_length_le (by omega)];rfl
   go_wp2
   go_ret2;exact⟨by rw[hd'.out];rfl,hbel⟩
theorem rM(ents:Int)(sa:Option Addr)(nk cap:Nat)(a:Option Addr)(n cap':Nat)(w:World)(hl:16<n) :
  Calls Tryz.prog 98 #[.agg #[.int .i64 ents,.slice sa nk cap],.slice a n cap'] w
   fun e w'=>e=.returned (.tuple #[.int .i64 0,.bool false])∧Below w.heap.size w w':=by
 have h16:decide (16<(n:Int))=true:=by simp;omega
 go_enter Tryz.func98,Tryz.ntmps98
 go_wp2
 go_ret2;exact⟨rfl,(Below.refl _ _).alloc (Nat.le_refl _) _⟩
theorem nD(ents:Int)(sa:Option Addr)(nk cap:Nat)(va:Option Addr)(vc:Nat)(w:World)  :
  Calls Tryz.prog 98 #[.agg #[.int .i64 ents,.slice sa nk cap],.slice va 0 vc] w
   fun e w'=>e=.returned (.tuple #[.int .i64 0,.bool true])∧Below w.heap.size w w':=by
 go_enter Tryz.func98,Tryz.ntmps98
 go_wp2
 go_loopw [13] (fun i wr=>i=.int .i64 0∧Below w.heap.size w wr) (fun _ _=>0)
 case atStart=>exact⟨rfl,(Below.refl _ _).alloc (Nat.le_refl _) _⟩
 case round=>
  obtain⟨rfl,hbel⟩:=hrel
  go_wp2
  go_ret2;exact⟨rfl,hbel⟩
theorem uH(ents:Int)(sa:Option Addr)(nk cap:Nat)(v:Value)(l:List Ins)(w:World)(he:1≤ents)(he':ents≤8)(hk:nk≤8)
  (hv:CodeV w.heap.size w v l) :
  Calls Tryz.prog 98 #[.agg #[.int .i64 ents,.slice sa nk cap],v] w
   fun e w'=>e=.returned (.tuple #[.int .i64 ((gR ents nk l).getD 0:Nat),.bool (gR ents nk l).isNone])∧Below w.heap.size w w':=by
 obtain⟨_,⟨rfl,rfl⟩|⟨b,off,cap',rfl,hb,hc⟩|⟨va,vc,rfl,rfl⟩⟩:=hv;rotate_left
 ·by_cases hl:l.length≤16
  ·exact rL ents sa nk cap b off cap' l w he he' hk hl hb hc
  ·refine(rM ents sa nk cap _ l.length cap' w (by omega)).mono ?_
   rintro e w' ⟨rfl,h⟩;refine⟨?_,h⟩;rw[gR,if_pos (by omega)];rfl
 ·exact nD ents sa nk cap _ _ w
 ·exact nD ents sa nk cap _ _ w
theorem oX(ents:Int)(sa:Option Addr)(nk cap:Nat)(w:World)(hno:(!inB ents 1 8||!inB nk 1 8)=true) :
  Calls Tryz.prog 56 #[.agg #[.int .i64 ents,.slice sa nk cap]] w
   fun e w'=>e=.returned (.tuple #[.int .i64 2,.int .i64 0,.int .i64 0])∧Below w.heap.size w w':=by
 rcases h1:inB ents 1 8 with _|_<;>rcases h2:inB nk 1 8 with _|_
 case true.true=>simp[h1,h2]at hno
 all_goals
  clear hno
  go_enter Tryz.func56,Tryz.ntmps56
  go_wp2_with (go_at_call 97;refine(bZ _ _ _ _).mono ?_;rintro e w' ⟨rfl,rfl⟩)
  go_ret3
  exact⟨rfl,(Below.refl _ _).alloc (Nat.le_refl _) _⟩
theorem zZ(ents:Int)(b off cap:Nat)(ks:List (List Ins))(w:World)(he:1≤ents)(he':ents≤8)(hk:1≤ks.length)(hk':ks.length≤8)
  (hbw:b<w.heap.size) (hK:KindsAt w.heap.size w b off ks) :
  Calls Tryz.prog 56 #[.agg #[.int .i64 ents,.slice (some ⟨b,off,none⟩) ks.length cap]] w
   fun e w'=>e=.returned (bO ents ks)∧Below w.heap.size w w':=by
 have h1:inB ents 1 8=true:=by simp[inB];omega
 have h2:inB ks.length 1 8=true:=by simp[inB];omega
 have hF:Hid (bE ents ks=bM ents ks.length ks 0):=by show _=_;simp[bE,h1,h2]
 go_enter Tryz.func56,Tryz.ntmps56
 go_wp2_with (go_at_call 97;refine(bZ _ _ _ _).mono ?_;rintro e w' ⟨rfl,rfl⟩)
 go_loopw [23,5,6,7,8] (fun i _ _ _ _ wr=>∃ n:Nat,n≤ks.length∧i=.int .i64 n∧Hid (bM ents ks.length (ks.drop n) n=bM ents ks.length ks 0)∧Below w.heap.size w wr∧wr.cell? ⟨w.heap.size,0,none⟩=some (.int .i64 ents)∧wr.cell? ⟨w.heap.size,1,none⟩=some (.slice (some ⟨b,off,none⟩) ks.length cap)∧w.heap.size<wr.heap.size) (fun i _ _ _ _ _=>ks.length-(intOf i).toNat)
 case atStart=>exact⟨0,Nat.zero_le _,rfl,rfl,(Below.refl _ _).alloc (Nat.le_refl _) _,by simp[go_sem],by simp[go_sem],by simp⟩
 case round=>
  obtain⟨n,hn,rfl,hfb,hbel,hc0,hc1,hsz⟩:=hrel
  by_cases hlt:n<ks.length
  ·obtain⟨v,hv0,hv⟩:=(hK.below hbel hbw (Nat.le_refl _)) n ks[n] (by simp)
   go_wp2_with fail
   refine(uH _ _ _ _ _ ks[n] _ he he' hk' (hv.mono (by omega))).mono ?_
   rintro e w1 ⟨rfl,hb1⟩;have hd:=lU (ents:=ents) (nk:=ks.length) hlt;rcases hm:gR ents ks.length ks[n]with _|p
   ·rw[hm]at hd;have hd':Hid (bM ents ks.length (ks.drop (n+1)) (n+1)=bM ents ks.length ks 0):=by show _=_;rw[←hfb.out,hd]
    clear hd
    go_wp2
    go_roundw
    case rel=>exact⟨n+1,by omega,by go_num,hd',hbel.trans (hb1.mono (by omega)),aA hb1 hc0 hsz,aA hb1 hc1 hsz,by have:=hb1.size;omega⟩
    case measure=>simp[intOf];omega
   ·rw[hm]at hd;have hd':Hid (bE ents ks=some (n,p)):=by show _=_;rw[hF.out,←hfb.out,hd]
    clear hd
    go_wp2
    go_ret3
    refine⟨by simp[bO,hd'.out],hbel.trans (hb1.mono (by omega))⟩
  ·have hd':Hid (bE ents ks=none):=by
    show _=_;rw[hF.out,←hfb.out,List.drop_of_length_le (by omega)];rfl
   go_wp2
   go_ret3
   exact⟨by simp[bO,hd'.out],hbel⟩
theorem kO(ents:Int)(v:Value)(ks:List (List Ins))(w:World)(hv:KindsV w.heap.size w v ks) :
  Calls Tryz.prog 56 #[.agg #[.int .i64 ents,v]] w
   fun e w'=>e=.returned (bO ents ks)∧Below w.heap.size w w':=by
 rcases hno:(!inB ents 1 8||!inB ks.length 1 8)with _|_
 ·simp[inB]at hno;obtain⟨_,⟨rfl,rfl⟩|⟨b,off,cap',rfl,hb,hc⟩|⟨va,vc,rfl,rfl⟩⟩:=hv;rotate_left
  ·exact zZ ents b off cap' ks w (by omega) (by omega) (by omega) (by omega) hb hc
  ·simp at hno
  ·simp at hno
 ·have hV:bO ents ks=.tuple #[.int .i64 2,.int .i64 0,.int .i64 0]:=by simp[bO,bE,hno]
  rw[hV];obtain⟨_,⟨rfl,rfl⟩|⟨b,off,cap',rfl,hb,hc⟩|⟨va,vc,rfl,rfl⟩⟩:=hv
  ·exact oX ents none 0 0 w (by simpa using hno)
  ·exact oX ents _ ks.length cap' w hno
  ·exact oX ents _ 0 vc w (by simpa using hno)
structure KS where
 taken:Nat
 clock:Int
 next:Int
 regs:Nat→Int
 q:List Ev
def bG(kb qb mb:Nat)(ov:Value)(b:Nat):Prop:=b=kb∨dV qb mb ov b
structure KerP(R:Nat→Prop)(base:Nat)(w:World)(kb qb mb:Nat)(ov:Value)(ents:Int)(ks:List (List Ins))(draws:List Int)(s:KS):Prop where
 c0:w.cell? ⟨kb,0,none⟩=some (.int .i64 ents)
 kinds:∃ kv,w.cell? ⟨kb,1,none⟩=some kv∧KindsIn R w kv ks
 draw:∃ dv,w.cell? ⟨kb,2,none⟩=some dv∧IntsIn R w dv draws
 c3:w.cell? ⟨kb,3,none⟩=some (.pointer (some ⟨qb,0,none⟩))
 c4:w.cell? ⟨kb,4,none⟩=some (.int .i64 s.clock)
 c5:w.cell? ⟨kb,5,none⟩=some (.int .i64 s.next)
 c6:w.cell? ⟨kb,6,none⟩=some (.int .i64 s.taken)
 regs:∀ j,j<32→w.cell? ⟨kb,7+j,none⟩=some (.int .i64 (s.regs j))
 room:Room w kb 39
 que:QueP base w qb mb ov s.q
 kq:¬dV qb mb ov kb
 far:∀ b,R b→b≠kb∧¬dV qb mb ov b
 rlt:∀ b,R b→b<w.heap.size
section
variable {R : Nat → Prop} {base : Nat} {w w' : World} {kb qb mb : Nat} {ov : Value} {ents : Int} {ks : List (List Ins)} {draws : List Int} {s : KS}
theorem KerP.klt(h:KerP R base w kb qb mb ov ents ks draws s):kb<w.heap.size:=aC h.c0
theorem KerP.lt(h:KerP R base w kb qb mb ov ents ks draws s):∀ b,bG kb qb mb ov b→b<w.heap.size:=by
 rintro b (rfl|hb)
 ·exact h.klt
 ·exact h.que.lt b hb
theorem KerP.only{U:Nat→Prop}(h:KerP R base w kb qb mb ov ents ks draws s)(ho:Only U w w')(hU:∀ b,bG kb qb mb ov b→¬U b)(hR:∀ b,R b→¬U b):KerP R base w' kb qb mb ov ents ks draws s:=by
 have hk:=hU kb (.inl rfl);obtain⟨kv,hk1,hk2⟩:=h.kinds;obtain⟨dv,hd1,hd2⟩:=h.draw;exact⟨ho.at h.c0 hk,⟨kv,ho.at hk1 hk,hk2.only ho hR⟩,⟨dv,ho.at hd1 hk,hd2.only ho hR⟩,ho.at h.c3 hk,ho.at h.c4 hk,ho.at h.c5 hk,ho.at h.c6 hk,fun j hj=>ho.at (h.regs j hj) hk,h.room.only ho hk,h.que.only ho (fun b hb=>hU b (.inr hb)),h.kq,h.far,fun b hb=>Nat.lt_of_lt_of_le (h.rlt b hb) ho.size⟩
theorem KerP.below(h:KerP R base w kb qb mb ov ents ks draws s)(hb:Below w.heap.size w w'):KerP R base w' kb qb mb ov ents ks draws s:=h.only (Only.new (S:=fun _=>False) hb) (by simp) (by simp)
theorem KerP.queue{ov':Value}{q':List Ev}(h:KerP R base w kb qb mb ov ents ks draws s)(ho:Only (dV qb mb ov) w w')(hq:QueP base w' qb mb ov' q')(hm:Moved w ov ov'):KerP R base w' kb qb mb ov' ents ks draws {s with q:=q'}:=by
 have hk:=h.kq;have hR:=fun b hb=>(h.far b hb).2;obtain⟨kv,hk1,hk2⟩:=h.kinds;obtain⟨dv,hd1,hd2⟩:=h.draw;have hset:∀ b,b<w.heap.size→¬dV qb mb ov b→¬dV qb mb ov' b:=by
  rintro b hb hn (rfl|rfl|hc)
  ·exact hn (.inl rfl)
  ·exact hn (.inr (.inl rfl))
  ·rcases hm with e|⟨g,e,hg⟩
   ·exact hn (.inr (.inr (hc.trans e)))
   ·rw[e]at hc;simp at hc;omega
 exact⟨ho.at h.c0 hk,⟨kv,ho.at hk1 hk,hk2.only ho hR⟩,⟨dv,ho.at hd1 hk,hd2.only ho hR⟩,ho.at h.c3 hk,ho.at h.c4 hk,ho.at h.c5 hk,ho.at h.c6 hk,fun j hj=>ho.at (h.regs j hj) hk,h.room.only ho hk,hq,hset kb h.klt hk,fun b hb=>⟨(h.far b hb).1,hset b (h.rlt b hb) (h.far b hb).2⟩,fun b hb=>Nat.lt_of_lt_of_le (h.rlt b hb) ho.size⟩
theorem KerP.wrote(h:KerP R base w kb qb mb ov ents ks draws s){o:Nat}{v:Value}{s':KS}(ho:4≤o)(ho':o<39)(hq:s'.q=s.q)
  (h4:(w.setCell ⟨kb,o,none⟩ v).cell? ⟨kb,4,none⟩=some (.int .i64 s'.clock)) (h5:(w.setCell ⟨kb,o,none⟩ v).cell? ⟨kb,5,none⟩=some (.int .i64 s'.next)) (h6:(w.setCell ⟨kb,o,none⟩ v).cell? ⟨kb,6,none⟩=some (.int .i64 s'.taken))
  (hr:∀ j,j<32→(w.setCell ⟨kb,o,none⟩ v).cell? ⟨kb,7+j,none⟩=some (.int .i64 (s'.regs j))):KerP R base (w.setCell ⟨kb,o,none⟩ v) kb qb mb ov ents ks draws s':=by
 have hon:Only (·=kb) w (w.setCell ⟨kb,o,none⟩ v):=Only.setCell (S:=(·=kb)) (Only.refl _ _) (p:=⟨kb,o,none⟩) rfl _
 have hR:=fun b hb=>(h.far b hb).1;obtain⟨kv,hk1,hk2⟩:=h.kinds;obtain⟨dv,hd1,hd2⟩:=h.draw;have oth:∀ i,i<4→(w.setCell ⟨kb,o,none⟩ v).cell? ⟨kb,i,none⟩=w.cell? ⟨kb,i,none⟩:=fun i hi=>World.cell?_setCell_other _ _ _ _ (by simp<;>omega)
 refine⟨(oth 0 (by omega)).trans h.c0,⟨kv,(oth 1 (by omega)).trans hk1,hk2.only hon hR⟩,⟨dv,(oth 2 (by omega)).trans hd1,hd2.only hon hR⟩,(oth 3 (by omega)).trans h.c3,h4,h5,h6,hr,h.room.setCell _ _,?_,h.kq,h.far,fun b hb=>Nat.lt_of_lt_of_le (h.rlt b hb) hon.size⟩
 rw[hq];exact h.que.only hon (fun b hb hc=>by subst hc;exact h.kq hb)
theorem KerP.setClock(h:KerP R base w kb qb mb ov ents ks draws s)(t:Int):KerP R base (w.setCell ⟨kb,4,none⟩ (.int .i64 t)) kb qb mb ov ents ks draws {s with clock:=t}:=
 h.wrote (by omega) (by omega) rfl (World.cell?_setCell_same _ _ _ h.c4) ((World.cell?_setCell_other _ _ _ _ (by simp)).trans h.c5) ((World.cell?_setCell_other _ _ _ _ (by simp)).trans h.c6) (fun j hj=>(World.cell?_setCell_other _ _ _ _ (by simp<;>omega)).trans (h.regs j hj))
theorem KerP.setNext(h:KerP R base w kb qb mb ov ents ks draws s)(t:Int):KerP R base (w.setCell ⟨kb,5,none⟩ (.int .i64 t)) kb qb mb ov ents ks draws {s with next:=t}:=
 h.wrote (by omega) (by omega) rfl ((World.cell?_setCell_other _ _ _ _ (by simp)).trans h.c4) (World.cell?_setCell_same _ _ _ h.c5) ((World.cell?_setCell_other _ _ _ _ (by simp)).trans h.c6) (fun j hj=>(World.cell?_setCell_other _ _ _ _ (by simp<;>omega)).trans (h.regs j hj))
theorem KerP.setTaken(h:KerP R base w kb qb mb ov ents ks draws s)(t:Nat):KerP R base (w.setCell ⟨kb,6,none⟩ (.int .i64 t)) kb qb mb ov ents ks draws {s with taken:=t}:=
 h.wrote (by omega) (by omega) rfl ((World.cell?_setCell_other _ _ _ _ (by simp)).trans h.c4) ((World.cell?_setCell_other _ _ _ _ (by simp)).trans h.c5) (World.cell?_setCell_same _ _ _ h.c6) (fun j hj=>(World.cell?_setCell_other _ _ _ _ (by simp<;>omega)).trans (h.regs j hj))
def cD(f:Nat→Int)(i:Nat)(v:Int):Nat→Int:=fun k=>if k=i then v else f k
theorem KerP.setReg(h:KerP R base w kb qb mb ov ents ks draws s){i:Nat}(hi:i<32)(v:Int):KerP R base (w.setCell ⟨kb,7+i,none⟩ (.int .i64 v)) kb qb mb ov ents ks draws {s with regs:=cD s.regs i v}:=by
 refine h.wrote (by omega) (by omega) rfl ((World.cell?_setCell_other _ _ _ _ (by simp<;>omega)).trans h.c4) ((World.cell?_setCell_other _ _ _ _ (by simp<;>omega)).trans h.c5) ((World.cell?_setCell_other _ _ _ _ (by simp<;>omega)).trans h.c6) (fun j hj=>?_)
 by_cases hji:j=i
 ·subst hji;rw[World.cell?_setCell_same _ _ _ (h.regs j hj)];simp[cD]
 ·rw[World.cell?_setCell_other _ _ _ _ (by simp<;>omega),h.regs j hj]
  simp[cD,hji]
end
def fQ(n:Int):Int:=min (max n (-1000000000)) 1000000000
theorem rF(n:Int):-1000000000≤fQ n∧fQ n≤1000000000:=by unfold fQ;omega
def doI(draws:List Int)(E:Nat)(x:Ins)(s:KS):KS×List Int×Int:=
 let a:=E*4+x.a.toNat
 if x.op=1 then ({s with regs:=cD s.regs a x.b},[],0)
 else if x.op=2 then ({s with regs:=cD s.regs a (fQ (s.regs a+s.regs (E*4+x.b.toNat)))},[],0)
 else if x.op=3 then ({s with regs:=cD s.regs a (fQ (s.regs a-s.regs (E*4+x.b.toNat)))},[],0)
 else if x.op=4 then
  match draws[s.taken]? with
  | none=>({s with regs:=cD s.regs a 0},[],5)
  | some d=>({s with taken:=s.taken+1,regs:=cD s.regs a (d % x.b)},[],0)
 else if x.op=6 then
  if ¬(s.q.length<16∧s.next<1000000000)then ({s with regs:=cD s.regs (E*4+3) 0},[],3)
  else if 1000000000000<s.clock+max (s.regs (E*4+x.c.toNat)) 0 then ({s with regs:=cD s.regs (E*4+3) 0},[],4)
  else ({s with q:=dR ⟨s.clock+max (s.regs (E*4+x.c.toNat)) 0,s.next,x.a,x.b⟩ s.q,next:=s.next+1,regs:=cD s.regs (E*4+3) s.next},[],0)
 else if x.op=7 then ({s with q:=bY (s.regs a) s.q},[],0)
 else (s,[s.regs a],0)
def lW(draws:List Int)(E:Nat):List Ins→Nat→KS→List Int→KS×List Int×Int
 | [],_,s,told=>(s,told,0)
 | _::l,k+1,s,told=>lW draws E l k s told
 | x::l,0,s,told=>
  if x.op=5 then
   if s.regs (E*4+x.a.toNat)≤0 then lW draws E l x.b.toNat s told else lW draws E l 0 s told
  else
   match doI draws E x s with
   | (s',t,why)=>if why=0 then lW draws E l 0 s' (told++t)else (s',[],why)
def cF(draws:List Int)(E:Nat)(l:List Ins)(s:KS)(told:List Int):KS×List Int×Int:=lW draws E l 0 s told
theorem rT(draws:List Int)(E:Nat):∀ (l:List Ins) (k:Nat) (s:KS) (told:List Int),lW draws E l k s told=cF draws E (l.drop k) s told
 | [],k,s,told=>by simp[cF,lW]
 | x::l,0,s,told=>rfl
 | x::l,k+1,s,told=>by rw[lW];simpa using rT draws E l k s told
def aV(ks:List (List Ins))(draws:List Int)(e:Ev)(s:KS):KS×List Int×Int:=
 cF draws e.entity.toNat (ks.getD e.kind.toNat []) {s with q:=bY e.number s.q,clock:=e.time} []
structure KOk(ents:Int)(nk:Nat)(draws:List Int)(s:KS):Prop where
 taken:s.taken≤draws.length
 clock:0≤s.clock∧s.clock≤1000000000000
 next:1≤s.next∧s.next≤1000000000
 regs:∀ j,-1000000000≤s.regs j∧s.regs j≤1000000000
 evs:∀ e∈s.q,s.clock≤e.time∧e.time≤1000000000000∧1≤e.number∧e.number<s.next∧0≤e.kind∧e.kind<nk∧0≤e.entity∧e.entity<ents
 len:s.q.length≤16
theorem KOk.reg{ents:Int}{nk:Nat}{draws:List Int}{s:KS}(h:KOk ents nk draws s){i:Nat}{v:Int}(hv:-1000000000≤v∧v≤1000000000):KOk ents nk draws {s with regs:=cD s.regs i v}:=by
 refine⟨h.taken,h.clock,h.next,?_,h.evs,h.len⟩
 intro j;simp only[cD]
 split
 ·exact hv
 ·exact h.regs j
theorem pC{ents:Int}{nk:Nat}{draws:List Int}{s:KS}{x:Ins}{E:Nat}(h:KOk ents nk draws s)(hx:aX ents nk x.op x.a x.b x.c=true)(h5:x.op≠5)(hd:∀ d∈draws,0≤d∧d≤1000000000):KOk ents nk draws (doI draws E x s).1:=by
 unfold doI;simp only
 by_cases o1:x.op=1
 ·rw[if_pos o1];refine h.reg ?_;simp[aX,o1,inB]at hx;omega
 rw[if_neg o1]
 by_cases o2:x.op=2
 ·rw[if_pos o2];exact h.reg (rF _)
 rw[if_neg o2]
 by_cases o3:x.op=3
 ·rw[if_pos o3];exact h.reg (rF _)
 rw[if_neg o3]
 by_cases o4:x.op=4
 ·rw[if_pos o4]
  split
  ·exact h.reg (by omega)
  ·rename_i d hdd
   have hb:1≤x.b∧x.b≤1000000000:=by simp[aX,o4,inB]at hx;omega
   have hdr:=hd d (List.mem_of_getElem? hdd);have hm:=Int.emod_lt_of_pos d (show 0<x.b by omega)
   have hm0:=Int.emod_nonneg d (show x.b≠0 by omega)
   have h':=h.reg (i:=E*4+x.a.toNat) (v:=d % x.b) (by omega)
   refine⟨?_,h'.clock,h'.next,h'.regs,h'.evs,h'.len⟩
   have:=(List.getElem?_eq_some_iff.1 hdd).1;simp;omega
 rw[if_neg o4]
 by_cases o6:x.op=6
 ·rw[if_pos o6]
  split
  ·exact h.reg (by omega)
  ·rename_i hroom
   have hroom':s.q.length<16∧s.next<1000000000:=Classical.not_not.1 hroom
   split
   ·exact h.reg (by omega)
   ·rename_i hlate
    have hn:=h.next
    have hc:=h.clock;have h':=h.reg (i:=E*4+3) (v:=s.next) (by omega)
    have hxx:0≤x.a∧x.a≤nk-1∧0≤x.b∧x.b≤ents-1:=by simp[aX,o6,inB]at hx;omega
    refine⟨h'.taken,h'.clock,by simp;omega,h'.regs,?_,by simp[cX];omega⟩
    intro e he;rcases (gT _ _ _).1 he with rfl|he
    ·simp;omega
    ·have:=h.evs e he;simp;omega
 rw[if_neg o6]
 by_cases o7:x.op=7
 ·rw[if_pos o7];refine⟨h.taken,h.clock,h.next,h.regs,?_,?_⟩
  ·intro e he;exact h.evs e ((iV _ _ _).1 he).1
  ·have:=h.len;have:=List.length_filter_le (fun e:Ev=>decide (e.number≠s.regs (E*4+x.a.toNat))) s.q;simp only[bY];omega
 ·rw[if_neg o7];exact h
end Go.Proofs.YtndlmgocldckfaaGreat
