import Derived.Test.YtndlmgocldckfaaGreatG11
import Derived.Test.YtndlmgocldckfaaGreatG09
import Derived.OwnWalk
import Derived.Test.YtndlmgocldckfaaGreatG26
namespace Go.Proofs.YtndlmgocldckfaaGreat
open Go.RowKit
set_option linter.unusedVariables false
set_option linter.unusedSimpArgs false
set_option maxRecDepth 100000
set_option maxHeartbeats 4000000
theorem sZ{w w':World}{base:Nat}{e:TypeId}{size:Nat}{v:Value}{n:Nat}{xs:List Value}{U:Nat→Prop}(h:w.ownsRow base e size v n xs)(ho:Only U w w')(hU:∀ b,some b=v.ownBlock→¬U b):w'.ownsRow base e size v n xs:=by
 obtain⟨h1,h2⟩:=h;refine⟨h1,?_⟩;rcases h2 with h2|⟨g,cap,cur,rfl,hg,hc,r⟩
 ·exact .inl h2
 ·have hl:=(Array.getElem?_eq_some_iff.1 hc).1;exact .inr ⟨g,cap,cur,rfl,hg,(ho.block g hl (hU g rfl)).trans hc,r⟩
theorem OrdV.base{base base':Nat}{w:World}{v:Value}{n:Nat}{f:Nat→Mom}(h:OrdV base w v n f)(hb:base'≤base):OrdV base' w v n f:=by
 rcases h with h|⟨b,cap,rfl,h0,r⟩
 ·exact .inl h
 ·exact .inr ⟨b,cap,rfl,by omega,r⟩
theorem tA{w:World}{base:Nat}{e:TypeId}{size:Nat}{v:Value}{n:Nat}{xs:List Value}(h:w.ownsRow base e size v n xs):∃ sa sc,v=.slice sa n sc:=by
 rcases bK h with⟨rfl,rfl,_⟩|⟨g,cap,rfl,_⟩
 ·exact⟨_,_,rfl⟩
 ·exact⟨_,_,rfl⟩
theorem aAj(w:World)(e:TypeId)(size:Nat):(w.alloc (.cells #[] e)).ownsRow w.heap.size e size (.slice (some ⟨w.heap.size,0,none⟩) 0 0) 0 []:=
 ⟨by simp,.inr ⟨w.heap.size,0,#[],rfl,Nat.le_refl _,eD _ _,Nat.le_refl _,Nat.zero_le _,by simp,by simp⟩⟩
theorem aCp{base:Nat}(ov:Value)(n:Nat)(f:Nat→Mom)(w:World)(h:OrdV base w ov n f)(hn:n≤16) :
  Calls Tryz.prog 138 #[ov] w fun e w'=>∃ v,e=.returned v∧Below w.heap.size w w'∧OrdV w.heap.size w' v n f:=by
 have hown:=h.owns;obtain⟨rfl,rfl⟩|⟨b,cap,rfl,hb,hc,hcm,hr⟩:=h
 ·have hnil:=Lib.run_eql_slice_nil (P:=Tryz.prog) w 154 186 none 0 0 0 0 Tryz.underlying154;simp only[Option.isNone_none]at hnil
  go_enter Tryz.func138,Tryz.ntmps138
  go_wp2
  go_ret;exact⟨_,rfl,Below.refl _ _,.inl ⟨rfl,rfl⟩⟩
 ·have hnil:=Lib.run_eql_slice_nil (P:=Tryz.prog) w 154 186 (some ⟨b,0,none⟩) n cap 0 0 Tryz.underlying154;simp only[Option.isNone_some]at hnil;have Hsrc:Hid (eO (w.alloc (.cells #[] 186)) (.slice (some ⟨b,0,none⟩) n cap) n (cA f n)):=by
   rcases bK hown with⟨h1,_⟩|⟨g,c,h1,h2,h3,h4⟩
   ·simp at h1
   ·simp only[Value.slice.injEq,Option.some.injEq,Addr.mk.injEq]at h1;obtain⟨⟨rfl,_⟩,_,rfl⟩:=h1;exact .inr (.inl ⟨b,0,cap,rfl,h4.below ((Below.refl w.heap.size w).alloc (Nat.le_refl _) _) h3⟩)
  have Hml:=aB (bQ f n);have Hmo:=aB (oM f n);clear hown hr
  go_enter Tryz.func138,Tryz.ntmps138
  go_wp2_with (at_builtin;refine aD rfl (.tmp 5) (.tmp 6) 154 rfl w.heap.size 186 (.agg #[.int .i64 0,.int .i64 0]) 2 16 Tryz.underlying154 Tryz.infoM rfl (by omega) _ 0 [] rfl (aAj _ _ _) _ n (cA f n) rfl Hsrc.out Hml.out Hmo.out (by omega) (by omega) (by simp) ?_)
  intro v4 w4 hown4 hgr4 hwh4;have hbA:Below w.heap.size w (w.alloc (.cells #[] 186)):=(Below.refl _ _).alloc (Nat.le_refl _) _;have HB:Hid (Below w.heap.size w w4):=hbA.grown hgr4.out (by simp) (fun k hk=>by simp[Value.ownBlock]at hk;omega)
  clear hbA
  go_wp2_with fail
  go_ret;exact⟨v4,rfl,HB.out,OrdV.of (by simpa using hown4.out)⟩
theorem Tryz.infoEv:(Tryz.prog.info? 171).map (fun i=>(i.zero,i.size,i.bytes))=some (some (.agg #[.int .i64 0,.int .i64 0,.int .i64 0,.int .i64 0]),4,32):=by kernel_rfl
def eM(e:Ev):List Value:=[.int .i64 e.number,.int .i64 e.time,.int .i64 e.kind,.int .i64 e.entity]
def kG(q:List Ev):List Value:=q.flatMap eM
theorem aAk(q:List Ev)(e:Ev):kG (q++[e])=kG q++eM e:=by simp[kG]
structure InoR(w wr:World)(q:List Ev)(j:Nat)(lv left:Value):Prop where
 below:Below w.heap.size w wr
 row:wr.ownsRow w.heap.size 171 4 lv j (kG (q.take j))
 ord:∃ f,OrdV w.heap.size wr left (q.length-j) f∧HeapF f (q.length-j)∧MomsOf f (q.length-j) (q.drop j)
 sep:∀ b,some b=lv.ownBlock→some b≠left.ownBlock
theorem yO{base:Nat}(qb mb:Nat)(ov:Value)(q:List Ev)(w:World)(h:QueP base w qb mb ov q) :
  Calls Tryz.prog 130 #[.pointer (some ⟨qb,0,none⟩)] w fun e w'=>∃ v,e=.returned v∧Below w.heap.size w w'∧w'.ownsRow w.heap.size 171 4 v q.length (kG q):=by
 go_enter Tryz.func130,Tryz.ntmps130
 have h1:=h.c1;have h0:=h.c0;obtain⟨f,hord,hheap,hmoms⟩:=h.ord;obtain⟨oa,oc,rfl⟩:=hord.form;have hlen:=h.len;have hqb:=aC h0;have H:=aB h;have hqlen:(q.length:Int)≤16:=by omega
 obtain⟨iE,hiE,hzE,hsE,hbE⟩:=info_parts Tryz.infoEv;have HiE:=aB hiE;have HzE:=aB hzE;have HsE:=aB hsE;have HbE:Hid (iE.bytes*q.length≤281474976710656):=by show _≤_;rw[hbE];omega
 have Hord:=aB hord;have Hheap:=aB hheap;have Hmoms:=aB hmoms;clear h hiE hzE hsE hbE hord hheap hmoms
 go_wp2_with (at_make;refine wpList_make_own _ rfl (.const (.int .i64 0)) (.tmp 9) 191 rfl w.heap.size 171 iE _ 4 Tryz.underlying191 HiE.out HzE.out HsE.out _ _ _ q.length rfl rfl rfl HbE.out (by simp only[maxLen];omega) (Nat.le_refl _) ?_)
 intro w1 hown1 hgr1;have hb1:Below w.heap.size w w1:=(Below.refl _ _).grown hgr1 (Nat.le_refl _) (by simp)
 have k1:=aA hb1 h1 hqb;have k0:=aA hb1 h0 hqb;have HB1:=aB hb1;have Hown1:=aB hown1;have hz1:=hb1.size;have HC:=aB (aCp (.slice oa q.length oc) q.length f w1 (Hord.out.below hb1) hlen);clear hb1 hown1 hgr1 h1 h0
 go_wp2_with fail
 refine HC.out.mono ?_;rintro e w2 ⟨cv,rfl,hb2,hord2⟩;obtain⟨ca,cc,rfl⟩:=hord2.form
 replace k1:=aA hb2 k1 (by omega)
 replace k0:=aA hb2 k0 (by omega)
 have hglt:=(Hown1.out.lt w.heap.size rfl).2;have HI:Hid (InoR w w2 q 0 (.slice (some ⟨w.heap.size,0,none⟩) 0 q.length) (.slice ca q.length cc)):=by
  refine⟨HB1.out.trans (hb2.mono (by omega)),?_,⟨f,?_,?_,?_⟩,?_⟩
  ·simpa [kG]using sZ Hown1.out (Only.new (S:=fun _=>False) hb2) (by simp)
  ·exact hord2.base hz1
  ·exact Hheap.out
  ·exact Hmoms.out
  ·intro b hb hc;simp[Value.ownBlock]at hb;have:=(hord2.lt b hc).1;omega
 have hz2:=hb2.size;clear hb2 hord2 HC Hown1
 go_wp2_with fail
 go_loopg [3,4] 18 (fun g s3 s4 wr=>∃ (j:Nat),q.length-j+1≤g∧j≤q.length∧Hid (InoR w wr q j s3 s4))
 case atStart=>exact⟨0,by omega,by omega,HI.out⟩
 case round=>
  obtain⟨j,hg,hj,hI⟩:=hrel;have hbel:=hI.out.below;obtain⟨fj,hoj,hhj,hmj⟩:=hI.out.ord;have hzr:=hbel.size
  by_cases hlt:j<q.length
  ·obtain⟨m,hm⟩:∃ m,q.length-j=m+1:=⟨q.length-j-1,by omega⟩
   have hdr:q.drop j=q[j]::q.drop (j+1):=List.drop_eq_getElem_cons hlt;rw[hm]at hoj hhj hmj;have hsd:cE (q[j]::q.drop (j+1)):=by rw[←hdr];exact List.Pairwise.drop H.out.sorted
   have hdd:Distinct (q[j]::q.drop (j+1)):=by rw[←hdr];exact List.Pairwise.drop H.out.distinct
   rw[hdr]at hmj;have hfst:=(hmj.first hhj hsd hdd).2
   have hmem:q[j]∈q:=List.getElem_mem hlt;have Htk:Hid (q.take (j+1)=q.take j++[q[j]]):=List.take_succ_eq_append_getElem hlt;have Hrm:Hid (MomsOf (dQ fj 0 (fj m)) m (q.drop (j+1))):=by
    refine hmj.remove (by omega) hfst ?_ (by simp;omega) ?_
    ·intro x hx hn;rcases List.mem_cons.1 hx with rfl|hx
     ·rfl
     ·exact absurd hn.symm ((List.pairwise_cons.1 hdd).1 x hx)
    ·intro x;constructor
     ·intro hx;exact⟨List.mem_cons_of_mem _ hx,fun hc=>(List.pairwise_cons.1 hdd).1 x hx hc.symm⟩
     ·rintro⟨hx,hn⟩;rcases List.mem_cons.1 hx with rfl|hx
      ·exact absurd rfl hn
      ·exact hx
   obtain⟨_,h00⟩|⟨b,cap,hleft,hbb,hcp,hcm,hrb⟩:=hoj
   ·omega
   obtain⟨c0,c1,_,_⟩:=hrb.cell (i:=0) (by omega)
   rw[hfst]at c0 c1;simp only[Ev.mom,Nat.zero_mul,Nat.zero_add]at c0 c1;obtain⟨es,clock,hmm,hmq⟩:=H.out.map;have hmb:mb<w.heap.size:=(Array.getElem?_eq_some_iff.1 hmm).1;have L2:(Instr.lookup 152 (.map (some mb)) (.int .i64 q[j].number) false).run Tryz.prog wr.drew=.ok (eU q[j]) wr.drew:=by
    have:=fK (W:=wr.drew) ((hbel.block mb hmb).trans hmm) hmq (e:=q[j]) hmem H.out.distinct false
    simpa using this
   have L1:(Instr.lookup 152 (.map (some mb)) (.int .i64 q[j].number) false).run Tryz.prog wr=.ok (eU q[j]) wr:=by
    have:=fK (W:=wr) ((hbel.block mb hmb).trans hmm) hmq (e:=q[j]) hmem H.out.distinct false
    simpa using this
   have g0:wr.cell? ⟨qb,0,none⟩=some (.map (some mb)):=aA hbel H.out.c0 hqb;obtain⟨la,lc,hlv⟩:=tA hI.out.row;have Hrow:=aB (hI.out.row.alloc (.cells #[.int .i64 q[j].number,.int .i64 q[j].time,.int .i64 q[j].kind,.int .i64 q[j].entity] 171));have Hsrc:Hid (eO (wr.alloc (.cells #[.int .i64 q[j].number,.int .i64 q[j].time,.int .i64 q[j].kind,.int .i64 q[j].entity] 171)) (.slice (some ⟨wr.heap.size,0,none⟩) 1 1) 1 (eM q[j])):=by
    refine .inr (.inl ⟨_,0,_,rfl,?_⟩);intro i u hu;rw[World.cell?_alloc_at _ _ _ _ rfl,Nat.zero_add]
    match i,hu with
    | 0,hu=>simpa [eM]using hu
    | 1,hu=>simpa [eM]using hu
    | 2,hu=>simpa [eM]using hu
    | 3,hu=>simpa [eM]using hu
    | i+4,hu=>simp[eM]at hu
   have HbA:Hid (Below wr.heap.size wr (wr.alloc (.cells #[.int .i64 q[j].number,.int .i64 q[j].time,.int .i64 q[j].kind,.int .i64 q[j].entity] 171))):=(Below.refl _ _).alloc (Nat.le_refl _) _;have hd1:decide (0<((m:Int)+1))=true:=by rw[decide_eq_true_eq];omega
   have Hrb:=aB hrb;have Hhj:=aB hhj;have Hrow0:=aB hI.out.row;have Hsep:=aB hI.out.sep;have Hbel:=aB hbel;subst hleft;subst hlv;have Hnl:Hid (¬some qb=(Value.slice la j lc).ownBlock):=fun hc=>by have:=(Hrow0.out.lt qb hc.symm).1;omega
   have Hnb:Hid (¬some b=(Value.slice la j lc).ownBlock):=fun hc=>Hsep.out b hc rfl;have hblt:=hrb.lt;have hzb:=aB (show w.heap.size≤b from hbb);simp only[eU]at L1 L2;generalize q[j]=e at *;obtain⟨et,en,ek,ee⟩:=e;simp only at L1 L2 c0 c1 Hrow Hsrc HbA;clear hmj hsd hdd hdr hfst hmem hmm hmq hrb hhj hbel
   go_wp2_with fail
   go_region_held3 (fun W'=>W'.cell? ⟨qb,0,none⟩=some (.map (some mb))∧W'.cell? ⟨b,1,none⟩=some (.int .i64 en))
    (first|exact⟨g0,c1⟩|exact⟨aA HbA.out g0 (by omega),aA HbA.out c1 hblt⟩|exact⟨gg0,gg1⟩)
    (first|(refine cQ rfl (.tmp 21) (.tmp 31) 191 rfl w.heap.size 171 (.agg #[.int .i64 0,.int .i64 0,.int .i64 0,.int .i64 0]) 4 32 Tryz.underlying191 Tryz.infoEv rfl (by omega) (.slice la j lc) j (kG (q.take j)) rfl (show World.ownsRow _ _ _ _ _ _ _ from Hrow.out) (.slice (some ⟨wr.heap.size,0,none⟩) 1 1) 1 (eM ⟨et,en,ek,ee⟩) rfl (show eO _ _ _ _ from Hsrc.out) rfl (by simp[eM,Value.oneCell']) (by omega) (by omega) (by simp<;>omega) ?_;intro v4 w4 hown4 hgr4 hwh4;(have ho4:Only (fun b=>some b=(Value.slice la j lc).ownBlock) wr w4:=(Only.new HbA.out).trans ⟨hgr4.out.os,hgr4.out.tape,hgr4.out.output,hgr4.out.size,hgr4.out.block⟩);(have gg0:=ho4.at g0 Hnl.out);(have gg1:=ho4.at c1 Hnb.out)))
   have HO4:=aB ho4;have hz4:=ho4.size;have HW:=aB (pS w.heap.size b cap m 0 fj (q.drop (j+1)) w4 hzb.out hcp hcm (Hrb.out.only ho4 Hnb.out) Hhj.out (by omega) (by omega) Hrm.out)
   clear gg0 gg1 g0 c0 c1 L1 L2 ho4
   go_wp2_with fail
   refine HW.out.mono ?_;rintro e' w5 ⟨f5,rfl,hord5,hheap5,hmoms5,ho5⟩;have HO5:=aB ho5;have hz5:=ho5.size;have Hord5:=aB hord5;clear ho5 hord5
   go_wp2_with fail
   go_roundg (q.length-(j+1)+1)
   case measure=>omega
   case rel=>
    have hm':q.length-(j+1)=m:=by omega
    have hbl:=Hbel.out;have hvb:∀ k,some k=v4.ownBlock→k≠b:=by
     intro k hk hkb;subst hkb;rcases hwh4.out with e|e
     ·exact Hnb.out (hk.trans e)
     ·rw[e]at hk;simp at hk;omega
    refine⟨j+1,Nat.le_refl _,by omega,⟨?_,?_,⟨f5,?_,?_,?_⟩,?_⟩⟩
    ·refine hbl.trans ((HO4.out.below (by omega) ?_).trans (HO5.out.below (by omega) ?_))
     ·intro k hk hc;have:=(Hrow0.out.lt k hc.symm).1;omega
     ·intro k hk hc;have:=hzb.out;omega
    ·rw[Htk.out,aAk];exact sZ hown4.out HO5.out (fun k hk hc=>hvb k hk hc)
    ·rw[hm'];exact Hord5.out
    ·rw[hm'];exact hheap5
    ·rw[hm'];exact hmoms5
    ·intro k hk hc;simp[Value.ownBlock]at hc;exact hvb k hk hc
  ·have hje:j=q.length:=by omega
   have hoj':q.length-j=0:=by omega
   rw[hoj']at hoj;obtain⟨sa,sc,hs4⟩:=hoj.form;subst hs4;have Hrow:=aB hI.out.row;have Hbel:=aB hbel;clear hoj hhj hmj hbel
   go_wp2_with fail
   go_ret;have:=Hrow.out;rw[hje,List.take_length]at this;exact⟨_,rfl,Hbel.out,this⟩
def evB:Int→List Ev→List Int
 | _,[]=>[]
 | t,e::q=>aJ (e.time-t)++(aJ e.number++(aJ e.kind++(aJ e.entity++evB e.time q)))
def gV(t:Int)(q:List Ev):Int:=(q.getLast?.map (·.time)).getD t
theorem tN:∀ (t:Int) (q:List Ev) (e:Ev),evB t (q++[e])=evB t q++(aJ (e.time-gV t q)++(aJ e.number++(aJ e.kind++aJ e.entity)))
 | t,[],e=>by simp[evB,gV]
 | t,x::q,e=>by
  have:=tN x.time q e;rw[List.cons_append,evB,this,evB];have hl:gV x.time q=gV t (x::q):=by
   unfold gV;cases q with
   | nil=>simp
   | cons y q=>rw[List.getLast?_cons_cons];rcases h:(y::q).getLast? with _|z<;>simp_all
  rw[hl];simp
theorem nW(t:Int)(q:List Ev)(i:Nat)(hi:i<q.length):gV t (q.take (i+1))=q[i].time:=by
 unfold gV;rw[List.take_succ_eq_append_getElem hi,List.getLast?_append];simp
theorem zH{t:Int}{q:List Ev}(hs:cE q)(h0:∀ e∈q,t≤e.time)(i:Nat)(hi:i<q.length):t≤gV t (q.take i)∧gV t (q.take i)≤q[i].time:=by
 rcases Nat.eq_zero_or_pos i with rfl|hp
 ·simpa [gV]using h0 q[0] (List.getElem_mem hi)
 ·obtain⟨k,rfl⟩:∃ k,i=k+1:=⟨i-1,by omega⟩
  rw[nW t q k (by omega)]
  have:=List.pairwise_iff_getElem.1 hs k (k+1) (by omega) hi (by omega)
  refine⟨h0 _ (List.getElem_mem _),?_⟩;simp only[cM,Bool.or_eq_true,decide_eq_true_eq,Bool.and_eq_true]at this;omega
theorem wE:∀ (q:List Ev) (i r:Nat),r<4→(kG q)[i*4+r]?=q[i]?.bind fun e=>(eM e)[r]?
 | [],i,r,_=>by simp[kG]
 | x::l,0,r,h=>by
  have:r=0∨r=1∨r=2∨r=3:=by omega
  rcases this with rfl|rfl|rfl|rfl<;>simp[kG,eM]
 | x::l,i+1,r,h=>by
  have ih:=wE l i r h;have e:(i+1)*4+r=(i*4+r)+1+1+1+1:=by omega
  rw[e]
  simpa [kG,eM]using ih
theorem aEt{w:World}{g:Nat}{q:List Ev}(h:RowAt w g 0 (kG q))(i:Nat)(hi:i<q.length):w.cell? ⟨g,i*4,none⟩=some (.int .i64 q[i].number)∧w.cell? ⟨g,i*4+1,none⟩=some (.int .i64 q[i].time)∧w.cell? ⟨g,i*4+2,none⟩=some (.int .i64 q[i].kind)∧w.cell? ⟨g,i*4+3,none⟩=some (.int .i64 q[i].entity):=by
 have g4:=fun r (hr:r<4) (v:Value) (hv:(eM q[i])[r]?=some v)=>h (i*4+r) v (by rw[wE q i r hr,List.getElem?_eq_getElem hi];exact hv)
 exact⟨by simpa using g4 0 (by omega) _ rfl,by simpa using g4 1 (by omega) _ rfl,by simpa using g4 2 (by omega) _ rfl,by simpa using g4 3 (by omega) _ rfl⟩
def fT(s:KS)(n:Nat):List Int:=(List.range n).flatMap fun j=>cJ (s.regs j)
theorem iN(s:KS)(n:Nat):fT s (n+1)=fT s n++cJ (s.regs n):=by simp[fT,List.range_succ]
def fL(ents:Int)(nk:Nat)(s:KS):List Int:=
 aJ ents++(aJ nk++(aJ s.clock++(aJ s.next++(aJ s.taken++(fT s (ents.toNat*4)++(aJ s.q.length++evB s.clock s.q))))))
theorem rH:∀ (t:Int) (q:List Ev),(evB t q).length≤q.length*40
 | t,[]=>by simp[evB]
 | t,e::q=>by
  have h1:=aG (e.time-t);have h2:=aG e.number;have h3:=aG e.kind;have h4:=aG e.entity;have:=rH e.time q;simp[evB];omega
theorem mK(s:KS):∀ n,(fT s n).length≤n*10
 | 0=>by simp[fT]
 | n+1=>by
  have:=mK s n;have h:=aG (jE (s.regs n));rw[iN,List.length_append];unfold cJ;omega
structure SvR(w wr:World)(wb:Nat)(lv:Value)(l:List Int):Prop where
 below:Below w.heap.size w wr
 wr:WrP w.heap.size wr wb lv l
 wlt:w.heap.size≤wb
theorem SvR.num{w wr w2:World}{wb:Nat}{lv lv2:Value}{l l2:List Int}(h:SvR w wr wb lv l)(k:NumR w.heap.size wr w2 wb lv lv2 l2):SvR w w2 wb lv2 l2:=by
 refine⟨h.below.trans (k.only.below h.below.size ?_),k.wr,h.wlt⟩;rintro b hb (hc|hc)
 ·have:=h.wlt;omega
 ·have:=(h.wr.row.lt b hc).1;omega
theorem SvR.bel{w wr w2:World}{wb:Nat}{lv:Value}{l:List Int}(h:SvR w wr wb lv l)(k:Below wr.heap.size wr w2):SvR w w2 wb lv l:=by
 have hz:=h.below.size;refine⟨h.below.trans (k.mono hz),⟨aA k h.wr.cell (aC h.wr.cell),h.wr.room.below k (aC h.wr.cell),h.wr.row.keep (Only.new (S:=fun _=>False) k) (by simp),h.wr.sep⟩,h.wlt⟩
def tO(wr:World)(wb:Nat)(lv:Value)(g:Nat):Prop:=g<wr.heap.size∧g≠wb∧some g≠lv.ownBlock
def Stay(wr:World)(wb:Nat)(lv:Value)(w':World)(lv':Value):Prop:=∀ g,tO wr wb lv g→tO w' wb lv' g∧w'.heap[g]?=wr.heap[g]?
theorem Stay.refl(wr:World)(wb:Nat)(lv:Value):Stay wr wb lv wr lv:=fun g h=>⟨h,rfl⟩
theorem Stay.trans{a b c:World}{wb:Nat}{lv lv1 lv2:Value}(h:Stay a wb lv b lv1)(k:Stay b wb lv1 c lv2):Stay a wb lv c lv2:=
 fun g hg=>let ⟨h1,h2⟩:=h g hg;let ⟨k1,k2⟩:=k g h1;⟨k1,k2.trans h2⟩
theorem Stay.at{a b:World}{wb:Nat}{lv lv1:Value}(h:Stay a wb lv b lv1){g o:Nat}{v:Value}(hg:tO a wb lv g)(hc:a.cell? ⟨g,o,none⟩=some v):b.cell? ⟨g,o,none⟩=some v:=
 (World.cell?_of_block (w:=a) (a:=⟨g,o,none⟩) (h g hg).2).trans hc
theorem Stay.bel{a b c:World}{wb:Nat}{lv lv1:Value}(h:Stay a wb lv b lv1)(k:Below b.heap.size b c):Stay a wb lv c lv1:=by
 intro g hg;obtain⟨⟨h1,h2,h3⟩,h4⟩:=h g hg;have:=k.size;exact⟨⟨by omega,h2,h3⟩,(k.block g h1).trans h4⟩
theorem NumR.stay{base:Nat}{wr w':World}{wb:Nat}{lv lv':Value}{l:List Int}(h:NumR base wr w' wb lv lv' l):Stay wr wb lv w' lv':=by
 rintro g ⟨h1,h2,h3⟩;have hz:=h.only.size;refine⟨⟨by omega,h2,?_⟩,h.only.block g h1 (by rintro (hc|hc);exact h2 hc;exact h3 hc)⟩
 rcases h.moved with e|⟨g',e,hg'⟩
 ·rw[e];exact h3
 ·rw[e];intro hc;simp at hc;omega
section
variable {w wr : World} {wb : Nat} {lv : Value} {l : List Int}
theorem qX(n:Int)(h:SvR w wr wb lv l)(hl:l.length≤1000000)(hn:0≤n∧n≤9223372036854775807) :
  Calls Tryz.prog 110 #[.pointer (some ⟨wb,0,none⟩),.int .i64 n] wr fun e w'=>e=.returned (.tuple #[])∧∃ lv',SvR w w' wb lv' (l++aJ n)∧Stay wr wb lv w' lv':=
 (oA _ wb lv l n wr h.wr h.below.size hl hn).mono (by rintro e w' ⟨rfl,lv',hN⟩;exact⟨rfl,lv',h.num hN,hN.stay⟩)
theorem aEu(n:Int)(h:SvR w wr wb lv l)(hl:l.length≤1000000)(hn:-1000000000≤n∧n≤1000000000) :
  Calls Tryz.prog 111 #[.pointer (some ⟨wb,0,none⟩),.int .i64 n] wr fun e w'=>e=.returned (.tuple #[])∧∃ lv',SvR w w' wb lv' (l++cJ n)∧Stay wr wb lv w' lv':=
 (aB2 _ wb lv l n wr h.wr h.below.size hl hn).mono (by rintro e w' ⟨rfl,lv',hN⟩;exact⟨rfl,lv',h.num hN,hN.stay⟩)
end
theorem aAu{R:Nat→Prop}{base:Nat}(kb qb mb:Nat)(ov:Value)(ents:Int)(ks:List (List Ins))(draws:List Int)(s:KS)(w wr:World)(wb:Nat)(lv:Value)(l:List Int)(h:KerP R base w kb qb mb ov ents ks draws s)(hok:KOk ents ks.length draws s)(hk8:ks.length≤8)(he8:ents≤8)(hsrt:cE s.q)(hS:SvR w wr wb lv l)(hl:l.length≤1000) :
  Calls Tryz.prog 118 #[.pointer (some ⟨kb,0,none⟩),.pointer (some ⟨wb,0,none⟩)] wr fun e w'=>e=.returned (.tuple #[])∧∃ lv',SvR w w' wb lv' (l++(aJ s.q.length++evB s.clock s.q)):=by
 have H:=aB h;have HS:=aB hS;have hk:=h.klt;have k3:=aA hS.below h.c3 hk;have k4:=aA hS.below h.c4 hk;have hq16:=hok.len;clear h hS
 go_enter Tryz.func118,Tryz.ntmps118
 go_wp2_with fail
 refine(tB qb mb ov s.q _ (H.out.below HS.out.below).que).mono ?_;rintro e w1 ⟨rfl,rfl⟩
 go_wp2_with fail
 refine(qX (s.q.length:Int) HS.out (by omega) (by omega)).mono ?_
 rintro e w2 ⟨rfl,lv2,hS2,_⟩;have HS2:=aB hS2;have HS2c:=aB hS2.wr.cell;have HS2r:=aB hS2.wr.row;have j3:=aA hS2.below H.out.c3 hk;have j4:=aA hS2.below H.out.c4 hk;have hz2:=hS2.below.size;clear hS2 k3 k4
 go_wp2_with fail
 refine(yO qb mb ov s.q _ (H.out.below HS2.out.below).que).mono ?_;rintro e w3 ⟨iv,rfl,hb3,hrow3⟩;obtain⟨ia,ic,rfl⟩:=tA hrow3;have HS3:=aB (HS2.out.bel hb3);have hz3:=hb3.size;have Hrow3:=aB hrow3;clear hb3 hrow3 HS2 j3 j4
 go_wp2_with fail
 have hll:=aG (s.q.length:Int);have hev:=aB hok.evs;have hcl:=hok.clock;have hnx:=hok.next
 obtain⟨g,cap,hia,hgrow⟩:∃ g,∃ cap:Nat,(s.q≠[]→ia=some ⟨g,0,none⟩)∧(s.q≠[]→RowAt w3 g 0 (kG s.q)∧tO w3 wb lv2 g):=by
  rcases bK Hrow3.out with⟨e1,e2,e3⟩|⟨g,cap,e1,e2,e3,e4⟩
  ·exact⟨0,0,fun hc=>absurd (List.eq_nil_of_length_eq_zero e2) hc,fun hc=>absurd (List.eq_nil_of_length_eq_zero e2) hc⟩
  ·simp only[Value.slice.injEq]at e1;refine⟨g,cap,fun _=>e1.1,fun _=>⟨e4,e3,?_,?_⟩⟩
   ·have:=aC HS2c.out;omega
   ·intro hc;have:=(HS2r.out.lt g hc).2;omega
 have Hgrow:=aB hgrow;clear hgrow
 go_loopg [4,25] 18 (fun gf s4 s25 wr=>∃ (i:Nat) (lvi:Value),s25=.int .i64 i∧s4=.int .i64 (gV s.clock (s.q.take i))∧s.q.length-i+1≤gf∧i≤s.q.length∧Hid (SvR w wr wb lvi ((l++aJ s.q.length)++evB s.clock (s.q.take i))∧Stay w3 wb lv2 wr lvi))
 case atStart=>exact⟨0,lv2,rfl,by simp[gV],by omega,by omega,by simpa [evB]using HS3.out,Stay.refl _ _ _⟩
 case round=>
  obtain⟨i,lvi,rfl,rfl,hgf,hi,hI⟩:=hrel;have hlb:(evB s.clock (s.q.take i)).length≤640:=by
   have:=rH s.clock (s.q.take i);have h2:(s.q.take i).length≤16:=by simp;omega
   omega
  by_cases hlt:i<s.q.length
  ·have hne:s.q≠[]:=by intro hc;rw[hc]at hlt;simp at hlt
   obtain rfl:=hia hne;obtain⟨hra,hap⟩:=Hgrow.out hne;obtain⟨a0,a1,a2,a3⟩:=aEt hra i hlt;have c0:=hI.out.2.at hap a0;have c1:=hI.out.2.at hap a1;have c2:=hI.out.2.at hap a2;have c3:=hI.out.2.at hap a3;have d1:decide ((i:Int)<(s.q.length:Int))=true:=by simp;omega
   have hii:(i:Int)<(s.q.length:Int):=by omega
   have hw:IntKind.i64.wrap ((i:Int)+1)=(i:Int)+1:=by rw[IntKind.wrap_i64];omega
   have hls:=zH hsrt (fun e he=>(hev.out e he).1) i hlt;have hee:=hev.out s.q[i] (List.getElem_mem hlt);have HT:Hid (evB s.clock (s.q.take (i+1))=evB s.clock (s.q.take i)++(aJ (s.q[i].time-gV s.clock (s.q.take i))++(aJ s.q[i].number++(aJ s.q[i].kind++aJ s.q[i].entity)))):=by
    show _=_;rw[List.take_succ_eq_append_getElem hlt,tN]
   have HLn:=aB (nW s.clock s.q i hlt);generalize gV s.clock (s.q.take i)=pt at hls HT ⊢;generalize s.q[i]=e at a0 a1 a2 a3 c0 c1 c2 c3 hls hee HT HLn;obtain⟨et,en,ek,ee⟩:=e;simp only at a0 a1 a2 a3 c0 c1 c2 c3 hls hee HT HLn;have hws:IntKind.i64.wrap (et-pt)=et-pt:=by rw[IntKind.wrap_i64];omega
   have HI:=aB hI.out.1;have HSt:=aB hI.out.2;have hxl:wb<wr.heap.size:=aC hI.out.1.wr.cell;have Hxr:=aB hI.out.1.wr.row;clear hra hap a0 a1 a2 a3;generalize hbs:(l++aJ s.q.length)++evB s.clock (s.q.take i)=bs at HI;have hbl:bs.length≤1800:=by rw[←hbs];simp;omega
   have Hbs:=aB hbs;clear hbs;have n1:=aG (et-pt);have n2:=aG en;have n3:=aG ek
   go_wp2_with fail
   obtain⟨W4,hW4⟩:∃ W4,W4=wr.alloc (.cells #[.int .i64 en,.int .i64 et,.int .i64 ek,.int .i64 ee] 171):=⟨_,rfl⟩;have hb4:Below wr.heap.size wr W4:=by rw[hW4];exact(Below.refl _ _).alloc (Nat.le_refl _) _
   have hz4:W4.heap.size=wr.heap.size+1:=by rw[hW4];simp
   have x0:W4.cell? ⟨wr.heap.size,0,none⟩=some (.int .i64 en):=by rw[hW4];simp[go_sem]
   have x1:W4.cell? ⟨wr.heap.size,1,none⟩=some (.int .i64 et):=by rw[hW4];simp[go_sem]
   have x2:W4.cell? ⟨wr.heap.size,2,none⟩=some (.int .i64 ek):=by rw[hW4];simp[go_sem]
   have x3:W4.cell? ⟨wr.heap.size,3,none⟩=some (.int .i64 ee):=by rw[hW4];simp[go_sem]
   have hapx:tO W4 wb lvi wr.heap.size:=⟨by omega,by omega,fun hc=>by have:=(Hxr.out.lt _ hc).2;omega⟩
   have HS4:=aB (HI.out.bel hb4);have HSt4:=aB (HSt.out.bel hb4);rw[←hW4];clear hW4 hb4 c0 c1 c2 c3;refine(qX (et-pt) HS4.out (by omega) (by omega)).mono ?_
   rintro e w5 ⟨rfl,lv5,hS5,hst5⟩;have y0:=hst5.at hapx x0;have y1:=hst5.at hapx x1;have y2:=hst5.at hapx x2;have y3:=hst5.at hapx x3;have hap5:=(hst5 _ hapx).1;have HS5:=aB hS5;have Hst5:=aB hst5;clear x0 x1 x2 x3 hS5 hst5 hapx
   go_wp2_with fail
   refine(qX en HS5.out (by simp;omega) (by omega)).mono ?_
   rintro e w6 ⟨rfl,lv6,hS6,hst6⟩;have z1:=hst6.at hap5 y1;have z2:=hst6.at hap5 y2;have z3:=hst6.at hap5 y3;have hap6:=(hst6 _ hap5).1;have HS6:=aB hS6;have Hst6:=aB hst6;clear y0 y1 y2 y3 hS6 hst6 hap5
   go_wp2_with fail
   refine(qX ek HS6.out (by simp;omega) (by omega)).mono ?_
   rintro e w7 ⟨rfl,lv7,hS7,hst7⟩;have u1:=hst7.at hap6 z1;have u3:=hst7.at hap6 z3;have hap7:=(hst7 _ hap6).1;have HS7:=aB hS7;have Hst7:=aB hst7;clear z1 z2 z3 hS7 hst7 hap6
   go_wp2_with fail
   refine(qX ee HS7.out (by simp;omega) (by omega)).mono ?_
   rintro e w8 ⟨rfl,lv8,hS8,hst8⟩;have v1:=hst8.at hap7 u1;have HS8:=aB hS8;have Hst8:=aB hst8;clear u1 u3 hS8 hst8 hap7
   go_wp2_with fail
   go_roundg (s.q.length-(i+1)+1)
   case measure=>omega
   case rel=>
    refine⟨i+1,lv8,by go_num,by rw[HLn.out],Nat.le_refl _,by omega,?_,((((HSt4.out.trans Hst5.out).trans Hst6.out).trans Hst7.out).trans Hst8.out)⟩
    have:=HS8.out;rw[←Hbs.out]at this;rw[HT.out]
    simpa using this
  ·have d1:decide ((i:Int)<(s.q.length:Int))=false:=by simp;omega
   have hq:s.q.take i=s.q:=List.take_of_length_le (by omega)
   have HI:=aB hI.out.1;clear hgf
   go_wp2_with fail
   go_end0
   have:=HI.out;rw[hq]at this;exact⟨rfl,lvi,by simpa using this⟩
theorem lI(w:World)(a b c d:Int)(j:Int)(v:Int)(h:(j=0∧v=a)∨(j=1∧v=b)∨(j=2∧v=c)∨(j=3∧v=d)) :
  (Instr.index 109 (.agg #[.int .i64 a,.int .i64 b,.int .i64 c,.int .i64 d]) (.int .i64 j)).run Tryz.prog w=.ok (.int .i64 v) w:=by
 obtain⟨i,hi,hz,hsz,hby⟩:=info_parts Tryz.info3;rcases h with⟨rfl,rfl⟩|⟨rfl,rfl⟩|⟨rfl,rfl⟩|⟨rfl,rfl⟩<;>simp[Instr.index,run_underlying Tryz.underlying109,run_underlying Tryz.underlying3,asIntOf,part,isAgg,sizeOf,typeInfo,hi,hsz,go_sem]
theorem aD6{R:Nat→Prop}{base:Nat}(kb qb mb:Nat)(ov:Value)(ents:Int)(ks:List (List Ins))(draws:List Int)(s:KS)(w wr:World)(wb:Nat)(lv:Value)(l:List Int)(h:KerP R base w kb qb mb ov ents ks draws s)(hok:KOk ents ks.length draws s)(hk8:ks.length≤8)(he:1≤ents∧ents≤8)(hd:draws.length≤1000)(hsrt:cE s.q)(hS:SvR w wr wb lv l)(hl:l.length≤100) :
  Calls Tryz.prog 96 #[.pointer (some ⟨kb,0,none⟩),.pointer (some ⟨wb,0,none⟩)] wr fun e w'=>e=.returned (.tuple #[])∧∃ lv',SvR w w' wb lv' (l++fL ents ks.length s):=by
 have H:=aB h;have HS:=aB hS;have hk:=h.klt;obtain⟨kv,hkv,hkin⟩:=h.kinds;obtain⟨ka,kc,rfl⟩:=hkin.form;have k0:=aA hS.below h.c0 hk;have k1:=aA hS.below hkv hk;have k4:=aA hS.below h.c4 hk;have k5:=aA hS.below h.c5 hk;have k6:=aA hS.below h.c6 hk;have h0:=h.c0;have h4:=h.c4;have h5:=h.c5;have h6:=h.c6;have hcl:=hok.clock;have hnx:=hok.next
 have htk:=hok.taken;obtain⟨E,rfl⟩:=Int.eq_ofNat_of_zero_le (show 0≤ents by omega)
 clear h hS hkin
 go_enter Tryz.func96,Tryz.ntmps96
 go_wp2_with fail
 refine(qX (E:Int) HS.out (by omega) (by omega)).mono ?_
 rintro e w2 ⟨rfl,lv2,hS2,_⟩;have HS2:=aB hS2;have n1:=aG (E:Int);have j1:=aA hS2.below hkv hk;clear hS2 k0 k1 k4 k5 k6
 go_wp2_with fail
 refine(qX (ks.length:Int) HS2.out (by simp;omega) (by omega)).mono ?_
 rintro e w3 ⟨rfl,lv3,hS3,_⟩;have HS3:=aB hS3;have n2:=aG (ks.length:Int);have j4:=aA hS3.below h4 hk;clear hS3 j1
 go_wp2_with fail
 refine(qX s.clock HS3.out (by simp;omega) (by omega)).mono ?_
 rintro e w4 ⟨rfl,lv4,hS4,_⟩;have HS4:=aB hS4;have n3:=aG s.clock;have j5:=aA hS4.below h5 hk;clear hS4 j4
 go_wp2_with fail
 refine(qX s.next HS4.out (by simp;omega) (by omega)).mono ?_
 rintro e w5 ⟨rfl,lv5,hS5,_⟩;have HS5:=aB hS5;have n4:=aG s.next
 have j6:=aA hS5.below h6 hk;clear hS5 j5
 go_wp2_with fail
 refine(qX (s.taken:Int) HS5.out (by simp;omega) (by omega)).mono ?_
 rintro e w6 ⟨rfl,lv6,hS6,_⟩;have n5:=aG (s.taken:Int);have j0:=aA hS6.below h0 hk;obtain⟨l6,hl6⟩:∃ l6,l6=l++aJ (E:Int)++aJ (ks.length:Int)++aJ s.clock++aJ s.next++aJ (s.taken:Int):=⟨_,rfl⟩
 have HS6:Hid (SvR w w6 wb lv6 l6):=by rw[hl6];exact hS6
 have hl6n:l6.length≤150:=by rw[hl6];simp;omega
 have Hl6:=aB hl6;clear hS6 j6 hl6 HS HS2 HS3 HS4 HS5
 go_wp2_with fail
 have hE8:E≤8:=by omega
 have Hreg:=aB hok.regs
 go_loopg [48] 10 (fun gf s48 wr=>∃ (i:Nat) (lvi:Value),s48=.int .i64 i∧E-i+1≤gf∧i≤E∧Hid (SvR w wr wb lvi (l6++fT s (i*4))))
 case atStart=>exact⟨0,lv6,rfl,by omega,by omega,show SvR _ _ _ _ _ by simpa [fT]using HS6.out⟩
 case round=>
  rename World=>wo;obtain⟨i,lvi,rfl,hgf,hi,hI⟩:=hrel
  by_cases hlt:i<E
  ·have d1:decide ((i:Int)<(E:Int))=true:=by simp;omega
   have hw:IntKind.i64.wrap ((i:Int)+1)=(i:Int)+1:=by rw[IntKind.wrap_i64];omega
   have hi8:(i:Int)<8:=by omega
   have r0:=aA hI.out.below (H.out.regs (i*4) (by omega)) hk
   have r1:=aA hI.out.below (H.out.regs (i*4+1) (by omega)) hk
   have r2:=aA hI.out.below (H.out.regs (i*4+2) (by omega)) hk
   have r3:=aA hI.out.below (H.out.regs (i*4+3) (by omega)) hk
   simp only[←Nat.add_assoc]at r0 r1 r2 r3;have v0:=Hreg.out (i*4);have v1:=Hreg.out (i*4+1);have v2:=Hreg.out (i*4+2);have v3:=Hreg.out (i*4+3);have HR:Hid (fT s (i*4+1)=fT s (i*4)++cJ (s.regs (i*4))∧fT s (i*4+2)=fT s (i*4+1)++cJ (s.regs (i*4+1))∧fT s (i*4+3)=fT s (i*4+2)++cJ (s.regs (i*4+2))∧fT s (i*4+4)=fT s (i*4+3)++cJ (s.regs (i*4+3))):=⟨iN _ _,iN _ _,iN _ _,iN _ _⟩;have hrl:∀ j,j≤4→(l6++fT s (i*4+j)).length≤600:=by
    intro j hj;have:=mK s (i*4+j);simp;omega
   have Hrl:=aB hrl;clear hrl;generalize s.regs (i*4)=q0 at r0 v0 HR;generalize s.regs (i*4+1)=q1 at r1 v1 HR;generalize s.regs (i*4+2)=q2 at r2 v2 HR;generalize s.regs (i*4+3)=q3 at r3 v3 HR
   go_wp2_with fail
   go_loopg [58] 6 (fun gf s58 wr=>∃ (j:Nat) (lvj:Value),s58=.int .i64 j∧4-j+1≤gf∧j≤4∧Hid (SvR w wr wb lvj (l6++fT s (i*4+j))))
   case atStart=>exact⟨0,lvi,rfl,by omega,by omega,hI.out⟩
   case round=>
    obtain⟨j,lvj,rfl,hgf2,hj,hJ⟩:=hrel;have hc:j=0∨j=1∨j=2∨j=3∨j=4:=by omega
    have Hbl:=aB (Hrl.out j hj);clear r0 r1 r2 r3 d1;rcases hc with rfl|rfl|rfl|rfl|rfl
    ·have L:=lI wr q0 q1 q2 q3 0 q0 (by simp)
     go_wp2_with (go_at_call 111;refine(aEu q0 hJ.out (by have:=Hbl.out;omega) v0).mono ?_;rintro e w7 ⟨rfl,lv7,hS7,_⟩)
     go_roundg (4-1+1)
     case measure=>omega
     case rel=>exact⟨1,lv7,rfl,by omega,by omega,by rw[HR.out.1,←List.append_assoc];exact hS7⟩
    ·have L:=lI wr q0 q1 q2 q3 1 q1 (by simp)
     go_wp2_with (go_at_call 111;refine(aEu q1 hJ.out (by have:=Hbl.out;omega) v1).mono ?_;rintro e w7 ⟨rfl,lv7,hS7,_⟩)
     go_roundg (4-2+1)
     case measure=>omega
     case rel=>exact⟨2,lv7,rfl,by omega,by omega,by rw[HR.out.2.1,←List.append_assoc];exact hS7⟩
    ·have L:=lI wr q0 q1 q2 q3 2 q2 (by simp)
     go_wp2_with (go_at_call 111;refine(aEu q2 hJ.out (by have:=Hbl.out;omega) v2).mono ?_;rintro e w7 ⟨rfl,lv7,hS7,_⟩)
     go_roundg (4-3+1)
     case measure=>omega
     case rel=>exact⟨3,lv7,rfl,by omega,by omega,by rw[HR.out.2.2.1,←List.append_assoc];exact hS7⟩
    ·have L:=lI wr q0 q1 q2 q3 3 q3 (by simp)
     go_wp2_with (go_at_call 111;refine(aEu q3 hJ.out (by have:=Hbl.out;omega) v3).mono ?_;rintro e w7 ⟨rfl,lv7,hS7,_⟩)
     go_roundg (4-4+1)
     case measure=>omega
     case rel=>exact⟨4,lv7,rfl,by omega,by omega,by rw[HR.out.2.2.2,←List.append_assoc];exact hS7⟩
    ·go_wp2_with fail
     go_roundg (E-(i+1)+1)
     case measure=>omega
     case rel=>exact⟨i+1,lvj,by go_num,Nat.le_refl _,by omega,by rw[show(i+1)*4=i*4+4 by omega];exact hJ.out⟩
  ·have d1:decide ((i:Int)<(E:Int))=false:=by simp;omega
   obtain rfl:i=E:=by omega
   have HI:=aB hI.out;have hrl:=mK s (i*4);clear hgf
   go_wp2_with fail
   refine(aAu kb qb mb ov (i:Int) ks draws s w wo wb lvi _ H.out hok hk8 (by omega) hsrt HI.out (by simp;omega)).mono ?_
   rintro e w8 ⟨rfl,lv8,hS8⟩;have HS8:=aB hS8;clear hS8
   go_wp2_with fail
   go_end0
   have:=HS8.out;rw[Hl6.out]at this;refine⟨rfl,lv8,?_⟩
   simpa [fL]using this
end Go.Proofs.YtndlmgocldckfaaGreat
