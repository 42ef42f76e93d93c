import Derived.Test.YtndlmgocldckfaaGreatStp
import Derived.Conc.LoneCalls
namespace Go.Proofs.YtndlmgocldckfaaGreat
open Go.RowKit
set_option linter.unusedVariables false
set_option linter.unusedSimpArgs false
set_option maxRecDepth 100000
set_option maxHeartbeats 4000000
theorem aAy{R:Nat→Prop}{base:Nat}(kb qb mb sqb:Nat)(ov:Value)(ents:Int)(ks:List (List Ins))(draws:List Int)(s:KS)(horizon:Int)(w:World)(h:KerP R base w kb qb mb ov ents ks draws s)(hq:s.q=[]) :
  Calls Tryz.prog 116 #[.pointer (some ⟨kb,0,none⟩),.int .i64 horizon,.pointer (some ⟨sqb,0,none⟩)] w fun e' w'=>e'=.returned (.tuple #[qY,.int .i64 1])∧Below w.heap.size w w':=by
 have h3:=h.c3;have hkl:=h.klt;have HQ:Hid (QueP base w qb mb ov []):=by rw[←hq];exact h.que
 clear h hq
 go_enter Tryz.func116,Tryz.ntmps116
 go_wp2_with (go_at_call 126;refine(yR qb mb ov _ (HQ.out.below ((Below.refl _ _).alloc (Nat.le_refl _) _))).mono ?_;rintro e' w1 ⟨rfl,hb1⟩;(have z:∀ (j:Nat) (v:Value),#[Value.int .i64 0,.int .i64 0,.int .i64 0,.int .i64 0,.slice none 0 0][j]?=some v→w1.cell? ⟨w.heap.size,j,none⟩=some v∧w1.frozen? ⟨w.heap.size,j,none⟩=false:=(by intro j v hv;have hb:w1.heap[w.heap.size]?=some (.cells #[.int .i64 0,.int .i64 0,.int .i64 0,.int .i64 0,.slice none 0 0] 46 (0,0)):=(hb1.block w.heap.size (by simp)).trans (eD _ _);simp only[World.cell?,World.frozen?,hb];exact⟨hv,rfl⟩));obtain⟨z0,y0⟩:=z 0 _ rfl;obtain⟨z1,y1⟩:=z 1 _ rfl;obtain⟨z2,y2⟩:=z 2 _ rfl;obtain⟨z3,y3⟩:=z 3 _ rfl;obtain⟨z4,y4⟩:=z 4 _ rfl;clear z;(have hz1:w.heap.size<w1.heap.size:=by(have:=hb1.size;simp at this;omega)))
 have hroom:Room w1 w.heap.size 5:=by
  intro j hj;have:j=0∨j=1∨j=2∨j=3∨j=4:=by omega
  rcases this with rfl|rfl|rfl|rfl|rfl
  ·exact⟨by rw[z0];rfl,y0⟩
  ·exact⟨by rw[z1];rfl,y1⟩
  ·exact⟨by rw[z2];rfl,y2⟩
  ·exact⟨by rw[z3];rfl,y3⟩
  ·exact⟨by rw[z4];rfl,y4⟩
 obtain⟨t0,t1,t2,t3,t4⟩:=jS hroom (.int .i64 0) (.int .i64 0) (.int .i64 0) (.int .i64 0) (.slice none 0 0);have hoZ:=iO w1 w.heap.size (.int .i64 0) (.int .i64 0) (.int .i64 0) (.int .i64 0) (.slice none 0 0);obtain⟨WZ,hWZ⟩:∃ WZ,WZ=lJ w1 w.heap.size (.int .i64 0) (.int .i64 0) (.int .i64 0) (.int .i64 0) (.slice none 0 0):=⟨_,rfl⟩;have hWZ':=hWZ;unfold lJ at hWZ';rw[←hWZ]at t0 t1 t2 t3 t4 hoZ;rw[←hWZ'];clear hWZ hWZ' z0 z1 z2 z3 z4 y0 y1 y2 y3 y4;have hzZ:=hoZ.size;have hbw:Below w.heap.size w w1:=((Below.refl _ _).alloc (Nat.le_refl _) _).trans (hb1.mono (by simp))
 have hbZ:Below w.heap.size w WZ:=hbw.trans (hoZ.below (by omega) (fun k hk hc=>by omega))
 refine bodyPost_ret (v:=.tuple #[.agg #[.int .i64 0,.int .i64 0,.int .i64 0,.int .i64 0,.slice none 0 0],.int .i64 1]) ?_ rfl ?_
 ·rw[results_cell_tmp rfl];simp[go_sem,t0,t1,t2,t3,t4,show w.heap.size<WZ.heap.size by omega]
 exact⟨rfl,hbZ.alloc (by omega) _⟩
theorem aDg{R:Nat→Prop}{base:Nat}(kb qb mb sqb:Nat)(ov:Value)(ents:Int)(ks:List (List Ins))(draws:List Int)(s:KS)(horizon:Int)(e:Ev)(l:List Ev)(w:World)(h:KerP R base w kb qb mb ov ents ks draws s)(hq:s.q=e::l)(hz:horizon<e.time) :
  Calls Tryz.prog 116 #[.pointer (some ⟨kb,0,none⟩),.int .i64 horizon,.pointer (some ⟨sqb,0,none⟩)] w fun e' w'=>e'=.returned (.tuple #[qY,.int .i64 2])∧Below w.heap.size w w':=by
 have h3:=h.c3;have hkl:=h.klt;have HQ:Hid (QueP base w qb mb ov (e::l)):=by rw[←hq];exact h.que
 have hz':decide (horizon<e.time)=true:=by simpa using hz
 clear h hq
 go_enter Tryz.func116,Tryz.ntmps116
 go_wp2_with (go_at_call 126;refine(qF qb mb ov e l _ (HQ.out.below ((Below.refl _ _).alloc (Nat.le_refl _) _))).mono ?_;rintro e' w1 ⟨rfl,hb1⟩;simp only[eU];(have z:∀ (j:Nat) (v:Value),#[Value.int .i64 0,.int .i64 0,.int .i64 0,.int .i64 0,.slice none 0 0][j]?=some v→w1.cell? ⟨w.heap.size,j,none⟩=some v∧w1.frozen? ⟨w.heap.size,j,none⟩=false:=(by intro j v hv;have hb:w1.heap[w.heap.size]?=some (.cells #[.int .i64 0,.int .i64 0,.int .i64 0,.int .i64 0,.slice none 0 0] 46 (0,0)):=(hb1.block w.heap.size (by simp)).trans (eD _ _);simp only[World.cell?,World.frozen?,hb];exact⟨hv,rfl⟩));obtain⟨z0,y0⟩:=z 0 _ rfl;obtain⟨z1,y1⟩:=z 1 _ rfl;obtain⟨z2,y2⟩:=z 2 _ rfl;obtain⟨z3,y3⟩:=z 3 _ rfl;obtain⟨z4,y4⟩:=z 4 _ rfl;clear z;(have hz1:w.heap.size<w1.heap.size:=by(have:=hb1.size;simp at this;omega)))
 have hroom:Room w1 w.heap.size 5:=by
  intro j hj;have:j=0∨j=1∨j=2∨j=3∨j=4:=by omega
  rcases this with rfl|rfl|rfl|rfl|rfl
  ·exact⟨by rw[z0];rfl,y0⟩
  ·exact⟨by rw[z1];rfl,y1⟩
  ·exact⟨by rw[z2];rfl,y2⟩
  ·exact⟨by rw[z3];rfl,y3⟩
  ·exact⟨by rw[z4];rfl,y4⟩
 obtain⟨t0,t1,t2,t3,t4⟩:=jS hroom (.int .i64 0) (.int .i64 0) (.int .i64 0) (.int .i64 0) (.slice none 0 0);have hoZ:=iO w1 w.heap.size (.int .i64 0) (.int .i64 0) (.int .i64 0) (.int .i64 0) (.slice none 0 0);obtain⟨WZ,hWZ⟩:∃ WZ,WZ=lJ w1 w.heap.size (.int .i64 0) (.int .i64 0) (.int .i64 0) (.int .i64 0) (.slice none 0 0):=⟨_,rfl⟩;have hWZ':=hWZ;unfold lJ at hWZ';rw[←hWZ]at t0 t1 t2 t3 t4 hoZ;rw[←hWZ'];clear hWZ hWZ' z0 z1 z2 z3 z4 y0 y1 y2 y3 y4;have hzZ:=hoZ.size;have hbw:Below w.heap.size w w1:=((Below.refl _ _).alloc (Nat.le_refl _) _).trans (hb1.mono (by simp))
 have hbZ:Below w.heap.size w WZ:=hbw.trans (hoZ.below (by omega) (fun k hk hc=>by omega))
 refine bodyPost_ret (v:=.tuple #[.agg #[.int .i64 0,.int .i64 0,.int .i64 0,.int .i64 0,.slice none 0 0],.int .i64 2]) ?_ rfl ?_
 ·rw[results_cell_tmp rfl];simp[go_sem,t0,t1,t2,t3,t4,show w.heap.size<WZ.heap.size by omega]
 exact⟨rfl,hbZ.alloc (by omega) _⟩
def aFy(R:Nat→Prop)(base base':Nat)(w:World)(kb qb mb sqb smb:Nat)(ov sov:Value)(ents:Int)(ks:List (List Ins))(draws:List Int)(s:KS)(F:KS×Option Rec×Int)(e':Ending)(w':World):Prop:=
 ∃ ov' sov' qx',Only (qZ kb qb mb sqb smb ov sov) w w'∧Moved w ov ov'∧Moved w sov sov'∧QueP base' w' sqb smb sov' qx'∧iY R kb qb mb sqb smb ov' sov'∧KOk ents ks.length draws F.1∧KerP R base w' kb qb mb ov' ents ks draws F.1 ∧
  ((F.2.2≠0∧F.2.1=none∧F.1=s∧e'=.returned (.tuple #[qY,.int .i64 F.2.2])) ∨
   (F.2.2=0∧∃ tv r,F.2.1=some r∧e'=.returned (.tuple #[gZ r.e tv,.int .i64 0]) ∧
     w'.ownsRow w.heap.size 3 1 tv r.told.length (ints r.told)∧∀ b,some b=tv.ownBlock→¬qZ kb qb mb sqb smb ov' sov' b))
theorem zP{R:Nat→Prop}{base base':Nat}(kb qb mb sqb smb:Nat)(ov sov:Value)(ents:Int)(ks:List (List Ins))(draws:List Int)(s:KS)(qx:List Ev)(horizon:Int)(w:World)(h:KerP R base w kb qb mb ov ents ks draws s)
  (hs:QueP base' w sqb smb sov qx) (hbes:iY R kb qb mb sqb smb ov sov) (hbase:base≤w.heap.size) (hbase':base'≤w.heap.size) (hok:KOk ents ks.length draws s) (hents:ents≤8) (hk8:ks.length≤8)
  (hcode:∀ l∈ks,l.length≤16∧∀ x∈l,aX ents ks.length x.op x.a x.b x.c=true) (hd:∀ d∈draws,0≤d∧d≤1000000000) :
  Calls Tryz.prog 116 #[.pointer (some ⟨kb,0,none⟩),.int .i64 horizon,.pointer (some ⟨sqb,0,none⟩)] w (aFy R base base' w kb qb mb sqb smb ov sov ents ks draws s (eN ks draws horizon s)):=by
 rcases hq:s.q with _|⟨e,l⟩
 ·have hF:eN ks draws horizon s=(s,none,1):=by simp[eN,hq]
  rw[hF];refine(aAy kb qb mb sqb ov ents ks draws s horizon w h hq).mono ?_;rintro e' w' ⟨rfl,hb⟩;exact⟨ov,sov,qx,Only.new hb,.inl rfl,.inl rfl,hs.below hb,hbes,hok,h.below hb,.inl ⟨by simp,rfl,rfl,rfl⟩⟩
 ·by_cases hz:horizon<e.time
  ·have hF:eN ks draws horizon s=(s,none,2):=by simp[eN,hq,hz]
   rw[hF];refine(aDg kb qb mb sqb ov ents ks draws s horizon e l w h hq hz).mono ?_;rintro e' w' ⟨rfl,hb⟩;exact⟨ov,sov,qx,Only.new hb,.inl rfl,.inl rfl,hs.below hb,hbes,hok,h.below hb,.inl ⟨by simp,rfl,rfl,rfl⟩⟩
  ·refine(aF2 kb qb mb sqb smb ov sov ents ks draws s qx horizon e l w h hq hz hs hbes hbase hbase' hok hents hk8 hcode hd).mono ?_;rintro e' w' ⟨ov',sov',qx',h1,h2,h3,h4,h5,h6⟩;rcases hh:aV ks draws e s with⟨s',told,why⟩;rw[hh]at h6;rcases h6 with⟨hw,rfl,hk⟩|⟨hw,tv,rfl,hk,hok',hown,hsep⟩
   ·have hF:eN ks draws horizon s=(s,none,why):=by
     simp only[eN,hq];rw[if_neg hz,hh];simp only;rw[if_neg hw]
    rw[hF];exact⟨ov',sov',qx',h1,h2,h3,h4,h5,hok,hk,.inl ⟨hw,rfl,rfl,rfl⟩⟩
   ·have hF:eN ks draws horizon s=(s',some ⟨e,told⟩,0):=by
     simp only[eN,hq];rw[if_neg hz,hh];simp only;rw[if_pos hw]
    rw[hF];exact⟨ov',sov',qx',h1,h2,h3,h4,h5,hok',hk,.inr ⟨rfl,tv,⟨e,told⟩,rfl,rfl,hown,hsep⟩⟩
end Go.Proofs.YtndlmgocldckfaaGreat

namespace Go.Proofs.YtndlmgocldckfaaGreat
open Go.RowKit Go.Conc
set_option linter.unusedVariables false
set_option linter.unusedSimpArgs false
set_option maxRecDepth 100000
set_option maxHeartbeats 4000000
section
variable {P : Program} {Q : Goroutine → World → Prop} {b : Frame} {a : Act} {k : List Item} {cs : List Frame} {w : World}
theorem bN{c:Code}(h:c.wp P (Exit.then (fun a' w'=>LoneTo P Q (G (b.at a' k) cs) w') (fun _ _ _=>False)) a w):LoneTo P Q (G (b.at a (.code c::k)) cs) w:=by
 obtain⟨e,a',w',hq,harr⟩:=h b k cs;cases e with
 | normal=>
  obtain⟨g,w2,hs,hQ⟩:=hq;exact⟨g,w2,Steps.trans harr hs,hQ⟩
 | _=>exact hq.elim
theorem aY{x y:Code}(h:LoneTo P Q (G (b.at a (.code x::.code y::k)) cs) w):LoneTo P Q (G (b.at a (.code (.seq x y)::k)) cs) w:=.step (step_solo_go rfl stepG_seq) h
theorem pE(h:LoneTo P Q (G (b.at a k) cs) w):LoneTo P Q (G (b.at a (.code .skip::k)) cs) w:=.step (step_solo_go rfl stepG_skip) h
theorem kU{id:Nat}{c:Code}(h:LoneTo P Q (G (b.at a (.code c::.inBlock id::k)) cs) w):LoneTo P Q (G (b.at a (.code (.block id c)::k)) cs) w:=.step (step_solo_go rfl stepG_block) h
theorem oI{id:Nat}(h:LoneTo P Q (G (b.at a k) cs) w):LoneTo P Q (G (b.at a (.inBlock id::k)) cs) w:=.step (step_solo_go rfl stepG_inBlock) h
theorem vD{c:Code}(h:LoneTo P Q (G (b.at a (.code c::.inLoop c::k)) cs) w):LoneTo P Q (G (b.at a (.code (.loop c)::k)) cs) w:=.step (step_solo_go rfl stepG_loop) h
theorem pX{c:Code}(h:LoneTo P Q (G (b.at a (.code c::.inLoop c::k)) cs) w):LoneTo P Q (G (b.at a (.inLoop c::k)) cs) w:=.step (step_solo_go rfl stepG_inLoop) h
theorem vF{id:Nat}{k':List Item}(he:exitTo id k=some k')(h:LoneTo P Q (G (b.at a k') cs) w):LoneTo P Q (G (b.at a (.code (.exit id)::k)) cs) w:=.step (step_solo_go rfl (stepG_exit he)) h
theorem iK{c:Operand}{x y:Code}{t:Bool}(hc:a.eval c=.bool t)(h:LoneTo P Q (G (b.at a (.code (if t then x else y)::k)) cs) w):LoneTo P Q (G (b.at a (.code (.cond c x y)::k)) cs) w:=.step (step_solo_go rfl (stepG_cond hc)) h
theorem aC5{id:Nat}{o0 o1 o2:Oper}{xc xv:Operand}{v0 v1 v:Value}{c cap s r:Nat}{buf:Array Value}{tm:Bool}(hb:b.kind≠.early)(g0:o0.guard=none)(g1:o1.guard=none)(g2:o2.guard=none)
  (h0:(execOp a.eval o0).run P w=.ok (.value v0) w) (h1:(execOp (a.put o0.dst v0).eval o1).run P w=.ok (.value v1) w) (h2:o2.op=.send xc xv)
  (hc:((a.put o0.dst v0).put o1.dst v1).eval xc=.chan (some c)) (hv:((a.put o0.dst v0).put o1.dst v1).eval xv=v) (hch:w.heap[c]?=some (.chan cap buf false s r tm)) (hroom:buf.size<cap)
  (h:LoneTo P Q (G (b.at (((a.put o0.dst v0).put o1.dst v1).put o2.dst undef) k) cs) (w.setChan c cap (buf.push v) false (s+1) r tm)) :
  LoneTo P Q (G (b.at a (.code (.region id #[o0,o1,o2] false)::k)) cs) w:=by
 refine .step (step_solo_go rfl stepG_region) ?_;show LoneTo P Q (G (b.at a (.inRegion #[o0,o1,o2] [0,1,2]::k)) cs) w;refine .step (step_solo_go rfl (stepG_value (o:=o0) rfl (by simp[Region.wanted,g0]) hb h0)) ?_
 refine .step (step_solo_go rfl (stepG_value (o:=o1) rfl (by simp[Region.wanted,g1]) hb h1)) ?_
 refine .step (step_lone_send_room (c:=c) (cap:=cap) (buf:=buf) (s:=s) (r:=r) (tm:=tm) (v:=v) (z':=.tuple #[]) (w₁:=w) (stepG_comm (o:=o2) (cases:=#[scase c v (.tuple #[])]) (blocking:=true) (shape:=.send) (w':=w) rfl (by simp[Region.wanted,g2]) hb (by simp[execOp,h2,hc,hv,scase])) hch hroom) ?_
 rw[Frame.finish_at];refine .step (step_solo_go rfl stepG_region_end) ?_;exact h
end
def eB(ks:List (List Ins))(draws:List Int)(horizon:Int):Nat→KS→KS×List Rec×Int
 | 0,s=>(s,[],0)
 | n+1,s=>match eN ks draws horizon s with
  | (s',some r,_)=>match eB ks draws horizon n s' with
   | (s'',rs,why)=>(s'',r::rs,why)
  | (_,none,why)=>(s,[],why)
def eJ:Code→Option Code
 | .loop c=>some c
 | .seq a b=>match eJ a with
  | some c=>some c
  | none=>eJ b
 | .block _ c=>eJ c
 | .scope c=>eJ c
 | .cond _ a b=>match eJ a with
  | some c=>some c
  | none=>eJ b
 | _=>none
abbrev msBase:Frame:={(default:Frame)with fn:=89,kind:=.normal}
section
variable {R : Nat → Prop} {base base' : Nat} {kb qb mb sqb smb : Nat} {ov sov : Value} {ents : Int} {ks : List (List Ins)} {draws : List Int} {s s2 : KS} {qx : List Ev} {horizon : Int} {w : World} {why : Int} {r : Rec}
theorem aCg(h:KerP R base w kb qb mb ov ents ks draws s)
  (hs:QueP base' w sqb smb sov qx) (hbes:iY R kb qb mb sqb smb ov sov) (hbase:base≤w.heap.size) (hbase':base'≤w.heap.size) (hok:KOk ents ks.length draws s) (hents:ents≤8) (hk8:ks.length≤8)
  (hcode:∀ l∈ks,l.length≤16∧∀ x∈l,aX ents ks.length x.op x.a x.b x.c=true) (hd:∀ d∈draws,0≤d∧d≤1000000000) (hF:eN ks draws horizon s=(s2,none,why)) :
  Calls Tryz.prog 116 #[.pointer (some ⟨kb,0,none⟩),.int .i64 horizon,.pointer (some ⟨sqb,0,none⟩)] w fun e' w'=>e'=.returned (.tuple #[qY,.int .i64 why])∧why≠0∧Only (qZ kb qb mb sqb smb ov sov) w w'∧∃ ov' sov' qx',Moved w ov ov'∧Moved w sov sov'∧QueP base' w' sqb smb sov' qx'∧iY R kb qb mb sqb smb ov' sov'∧KerP R base w' kb qb mb ov' ents ks draws s:=by
 refine(zP kb qb mb sqb smb ov sov ents ks draws s qx horizon w h hs hbes hbase hbase' hok hents hk8 hcode hd).mono ?_;rintro e' w' ⟨ov',sov',qx',h1,h2,h3,h4,h5,h6,h7,h8⟩;rw[hF]at h6 h7 h8;rcases h8 with⟨a1,a2,a3,a4⟩|⟨a1,tv,r,a2,_⟩
 ·simp only at a1 a2 a3 a4 h7;rw[a3]at h7;exact⟨a4,a1,h1,ov',sov',qx',h2,h3,h4,h5,h7⟩
 ·simp at a2
theorem aCh(h:KerP R base w kb qb mb ov ents ks draws s)
  (hs:QueP base' w sqb smb sov qx) (hbes:iY R kb qb mb sqb smb ov sov) (hbase:base≤w.heap.size) (hbase':base'≤w.heap.size) (hok:KOk ents ks.length draws s) (hents:ents≤8) (hk8:ks.length≤8)
  (hcode:∀ l∈ks,l.length≤16∧∀ x∈l,aX ents ks.length x.op x.a x.b x.c=true) (hd:∀ d∈draws,0≤d∧d≤1000000000) (hF:eN ks draws horizon s=(s2,some r,why)) :
  Calls Tryz.prog 116 #[.pointer (some ⟨kb,0,none⟩),.int .i64 horizon,.pointer (some ⟨sqb,0,none⟩)] w fun e' w'=>∃ tsa tsc,e'=.returned (.tuple #[.agg #[.int .i64 r.e.number,.int .i64 r.e.time,.int .i64 r.e.kind,.int .i64 r.e.entity,.slice tsa r.told.length tsc],.int .i64 0]) ∧
   Only (qZ kb qb mb sqb smb ov sov) w w'∧w'.ownsRow w.heap.size 3 1 (.slice tsa r.told.length tsc) r.told.length (ints r.told)∧∃ ov' sov' qx',Moved w ov ov'∧Moved w sov sov'∧QueP base' w' sqb smb sov' qx'∧iY R kb qb mb sqb smb ov' sov'∧KOk ents ks.length draws s2∧KerP R base w' kb qb mb ov' ents ks draws s2∧∀ b,some b=(Value.slice tsa r.told.length tsc).ownBlock→¬qZ kb qb mb sqb smb ov' sov' b:=by
 refine(zP kb qb mb sqb smb ov sov ents ks draws s qx horizon w h hs hbes hbase hbase' hok hents hk8 hcode hd).mono ?_;rintro e' w' ⟨ov',sov',qx',h1,h2,h3,h4,h5,h6,h7,h8⟩;rw[hF]at h6 h7 h8;rcases h8 with⟨a1,a2,a3,a4⟩|⟨a1,tv,r',a2,a3,a4,a5⟩
 ·simp at a2
 ·simp only[Option.some.injEq]at a2;subst a2;obtain⟨tsa,tsc,rfl⟩:=bR a4;exact⟨tsa,tsc,a3,h1,a4,ov',sov',qx',h2,h3,h4,h5,h6,h7,a5⟩
end
def rb(v:Value):Option Nat:=match v with|.agg cs=>(cs.getD 4 undef).ownBlock|_=>none
structure MsInv(R:Nat→Prop)(base:Nat)(w wr:World)(kb qb mb c sqb smb:Nat)(ov:Value)(ents:Int)(ks:List (List Ins))(draws:List Int)(n i:Nat)(st:KS)(ov' sov':Value)(buf:Array Value)(recs:List Rec):Prop where
 only:Only (fun b=>bG kb qb mb ov b∨b=c) w wr
 moved:Moved w ov ov'
 ker:KerP R base wr kb qb mb ov' ents ks draws st
 ok:KOk ents ks.length draws st
 spare:∃ qx,QueP w.heap.size wr sqb smb sov' qx
 snew:∀ b,dV sqb smb sov' b→w.heap.size≤b
 bes:iY R kb qb mb sqb smb ov' sov'
 chan:wr.heap[c]?=some (.chan n buf false i 0 false)
 size:buf.size=i
 len:recs.length=i
 recd:∀ (j:Nat) v r,buf[j]?=some v→recs[j]?=some r→∃ sa sc,v=gZ r.e (.slice sa r.told.length sc)∧wr.ownsRow w.heap.size 3 1 (.slice sa r.told.length sc) r.told.length (ints r.told)
 rsep:∀ (j:Nat) v b,buf[j]?=some v→some b=rb v→¬bG kb qb mb ov' b∧¬dV sqb smb sov' b∧b≠c∧b<wr.heap.size
 apart:∀ (j k:Nat) v v' b,buf[j]?=some v→buf[k]?=some v'→some b=rb v→some b=rb v'→j=k
 ck:¬bG kb qb mb ov' c
 cl:c<w.heap.size
 cr:¬R c
section
variable {R : Nat → Prop} {base : Nat} {w wr w2 : World} {kb qb mb c sqb smb n i : Nat} {ov ov' sov' ov2 sov2 : Value} {ents : Int} {ks : List (List Ins)} {draws : List Int} {st st2 : KS} {buf : Array Value} {recs : List Rec} {qx : List Ev}
theorem MsInv.after(hI:MsInv R base w wr kb qb mb c sqb smb ov ents ks draws n i st ov' sov' buf recs)(ho:Only (qZ kb qb mb sqb smb ov' sov') wr w2)(hm:Moved wr ov' ov2)(hms:Moved wr sov' sov2)(hq:QueP w.heap.size w2 sqb smb sov2 qx)(hb:iY R kb qb mb sqb smb ov2 sov2)
  (hk:KerP R base w2 kb qb mb ov2 ents ks draws st2) (hok:KOk ents ks.length draws st2):MsInv R base w w2 kb qb mb c sqb smb ov ents ks draws n i st2 ov2 sov2 buf recs:=by
 have hz:=hI.only.size;have hz2:=ho.size;have hcl:=hI.cl;have hnQ:∀ b,b<wr.heap.size→¬dV sqb smb sov' b→¬dV sqb smb sov2 b:=by
  rintro b hb hn (rfl|rfl|hc)
  ·exact hn (.inl rfl)
  ·exact hn (.inr (.inl rfl))
  ·rcases hms with e|⟨g,e,hg⟩
   ·exact hn (.inr (.inr (hc.trans e)))
   ·rw[e]at hc;simp at hc;omega
 have hcQ:¬dV sqb smb sov' c:=fun hc=>by have:=hI.snew c hc;omega
 refine⟨?_,hI.moved.trans hm hz,hk,hok,⟨qx,hq⟩,?_,hb,?_,hI.size,hI.len,?_,?_,hI.apart,fP hm (by omega) hI.ck,hI.cl,hI.cr⟩
 ·refine⟨ho.os.trans hI.only.os,ho.tape.trans hI.only.tape,ho.output.trans hI.only.output,by omega,?_⟩
  intro k hk' hn;rw[ho.block k (by omega) ?_,hI.only.block k hk' hn]
  rintro (hc|hc)
  ·exact fP hI.moved hk' (fun h=>hn (.inl h)) hc
  ·have:=hI.snew k hc;omega
 ·rintro b (rfl|rfl|hc)
  ·exact hI.snew _ (.inl rfl)
  ·exact hI.snew _ (.inr (.inl rfl))
  ·rcases hms with e|⟨g,e,hg⟩
   ·exact hI.snew b (.inr (.inr (hc.trans e)))
   ·rw[e]at hc;simp at hc;omega
 ·rw[ho.block c (by omega) (fun hc=>by rcases hc with hc|hc;exact hI.ck hc;exact hcQ hc)];exact hI.chan
 ·intro j v r hv hr;obtain⟨sa,sc,e1,e2⟩:=hI.recd j v r hv hr;refine⟨sa,sc,e1,bT e2 ho (fun b hb hc=>?_)⟩;have hs:=hI.rsep j v b hv (by rw[e1];exact hb)
  rcases hc with hc|hc
  ·exact hs.1 hc
  ·exact hs.2.1 hc
 ·intro j v b hv hbv;obtain⟨s1,s2,s3,s4⟩:=hI.rsep j v b hv hbv;exact⟨fP hm s4 s1,hnQ b s4 s2,s3,by omega⟩
theorem MsInv.below(hI:MsInv R base w wr kb qb mb c sqb smb ov ents ks draws n i st ov' sov' buf recs)(hb:Below wr.heap.size wr w2):MsInv R base w w2 kb qb mb c sqb smb ov ents ks draws n i st ov' sov' buf recs:=by
 obtain⟨qx,hq⟩:=hI.spare;exact hI.after (Only.new hb) (.inl rfl) (.inl rfl) (hq.below hb) hI.bes (hI.ker.below hb) hI.ok
theorem MsInv.sent{r:Rec}{sa:Option Addr}{sc lo:Nat}(hI:MsInv R base w wr kb qb mb c sqb smb ov ents ks draws n i st ov' sov' buf recs)(hown:wr.ownsRow w.heap.size 3 1 (.slice sa r.told.length sc) r.told.length (ints r.told))
  (hsep:∀ b,some b=(Value.slice sa r.told.length sc).ownBlock→¬qZ kb qb mb sqb smb ov' sov' b∧lo≤b∧b<wr.heap.size) (hlo:∀ (j:Nat) v b,buf[j]?=some v→some b=rb v→b<lo) (hcl:c<lo) :
  MsInv R base w (wr.setChan c n (buf.push (gZ r.e (.slice sa r.told.length sc))) false (i+1) 0 false) kb qb mb c sqb smb ov ents ks draws n (i+1) st ov' sov' (buf.push (gZ r.e (.slice sa r.told.length sc))) (recs++[r]):=by
 have hz:=hI.only.size;have hcw:=hI.cl;have ho:Only (·=c) wr (wr.setChan c n (buf.push (gZ r.e (.slice sa r.told.length sc))) false (i+1) 0 false):=⟨rfl,rfl,rfl,by simp[World.setChan],fun k hk hn=>by simp only[World.setChan];rw[Array.getElem?_setIfInBounds_ne (fun e=>hn e.symm)]⟩
 have hch:=heap_setChan wr c n (buf.push (gZ r.e (.slice sa r.told.length sc))) false (i+1) 0 false (by omega)
 have hsz:=size_setChan wr c n (buf.push (gZ r.e (.slice sa r.told.length sc))) false (i+1) 0 false;obtain⟨qx,hq⟩:=hI.spare;have hcQ:¬dV sqb smb sov' c:=fun hc=>by have:=hI.snew c hc;omega
 have hget:∀ (j:Nat) v,(buf.push (gZ r.e (.slice sa r.told.length sc)))[j]?=some v→(buf[j]?=some v∧j<i)∨(j=i∧v=gZ r.e (.slice sa r.told.length sc)):=by
  intro j v hv;rw[Array.getElem?_push]at hv
  split at hv
  ·rename_i hj
   rw[hI.size]at hj;simp at hv;exact .inr ⟨hj,hv.symm⟩
  ·have:=(Array.getElem?_eq_some_iff.1 hv).1;rw[hI.size]at this;exact .inl ⟨hv,this⟩
 generalize wr.setChan c n (buf.push (gZ r.e (.slice sa r.told.length sc))) false (i+1) 0 false=W at ho hch hsz;refine⟨?_,hI.moved,hI.ker.only ho (fun b hb hc=>by subst hc;exact hI.ck hb) (fun b hb hc=>by subst hc;exact hI.cr hb),hI.ok,⟨qx,hq.only ho (fun b hb hc=>by subst hc;exact hcQ hb)⟩,hI.snew,hI.bes,hch,by simp[hI.size],by simp[hI.len],?_,?_,?_,hI.ck,hI.cl,hI.cr⟩
 ·refine⟨ho.os.trans hI.only.os,ho.tape.trans hI.only.tape,ho.output.trans hI.only.output,by omega,?_⟩
  intro k hk hn;rw[ho.block k (by omega) (fun e=>hn (.inr e)),hI.only.block k hk hn]
 ·intro j v r' hv hr;rcases hget j v hv with⟨h1,h2⟩|⟨rfl,rfl⟩
  ·rw[List.getElem?_append_left (by rw[hI.len];exact h2)]at hr
   obtain⟨sa',sc',e1,e2⟩:=hI.recd j v r' h1 hr;exact⟨sa',sc',e1,bT e2 ho (fun b hb hc=>(hI.rsep j v b h1 (by rw[e1];exact hb)).2.2.1 hc)⟩
  ·rw[List.getElem?_append_right (by rw[hI.len];omega),hI.len]at hr
   simp at hr;subst hr;exact⟨sa,sc,rfl,bT hown ho (fun b hb hc=>by have:=(hsep b hb).2.1;omega)⟩
 ·intro j v b hv hbv;rcases hget j v hv with⟨h1,h2⟩|⟨rfl,rfl⟩
  ·obtain⟨s1,s2,s3,s4⟩:=hI.rsep j v b h1 hbv;exact⟨s1,s2,s3,by omega⟩
  ·obtain⟨s1,s2,s3⟩:=hsep b hbv;exact⟨fun hc=>s1 (.inl hc),fun hc=>s1 (.inr hc),by omega,by omega⟩
 ·intro j k v v' b hv hv' hb hb';rcases hget j v hv with⟨h1,h2⟩|⟨rfl,rfl⟩<;>rcases hget k v' hv' with⟨h3,h4⟩|⟨rfl,rfl⟩
  ·exact hI.apart j k v v' b h1 h3 hb hb'
  ·have:=hlo j v b h1 hb;have:=(hsep b hb').2.1;omega
  ·have:=hlo k v' b h3 hb';have:=(hsep b hb).2.1;omega
  ·rfl
end
theorem aE2{R:Nat→Prop}{base:Nat}{w:World}{kb qb mb c sqb smb n:Nat}{ov:Value}{ents:Int}{ks:List (List Ins)}{draws:List Int}(horizon:Int)(hents:ents≤8)(hk8:ks.length≤8)(hn:n≤1000)(hbase:base≤w.heap.size)
  (hcode:∀ l∈ks,l.length≤16∧∀ x∈l,aX ents ks.length x.op x.a x.b x.c=true) (hd:∀ d∈draws,0≤d∧d≤1000000000) (cs:List Frame) (Q:Goroutine→World→Prop) (d:Deferred) (k:List Item) (m:Nat) :
  ∀ (i:Nat) (st:KS) (ov' sov':Value) (buf:Array Value) (recs:List Rec) (wr:World) (x8 x10 x11 y16 y17 y18 y19 y20 y21 y22 y23 y24 y25 y26 y27 y28 y29:Value),i+m=n→MsInv R base w wr kb qb mb c sqb smb ov ents ks draws n i st ov' sov' buf recs →
   (∀ (why:Int) (st2:KS) (rs:List Rec) (i2:Int) (ov2 sov2:Value) (buf2:Array Value) (w2:World) (x10 x11 y16 y17 y18 y19 y20 y21 y22 y23 y24 y25 y26 y27 y28 y29:Value) (k2:List Item),eB ks draws horizon m st=(st2,rs,why)→MsInv R base w w2 kb qb mb c sqb smb ov ents ks draws n (recs++rs).length st2 ov2 sov2 buf2 (recs++rs)→why≠0 →
    LoneTo Tryz.prog Q (G {msBase.at ⟨#[.pointer (some ⟨kb,0,none⟩),.int .i64 n,.int .i64 horizon,.chan (some c),undef,undef,undef,undef,.int .i64 why,.pointer (some ⟨sqb,0,none⟩),x10,x11,.chan (some c),.pointer (some ⟨sqb,0,none⟩),.int .i64 n,.int .i64 i2,y16,y17,y18,y19,y20,y21,y22,y23,y24,y25,y26,y27,y28,y29],[d]⟩ (.code .ret::k2)with mode:=.returning} cs) w2) →
   (∀ (st2:KS) (rs:List Rec) (i2:Int) (ov2 sov2:Value) (buf2:Array Value) (w2:World) (x8 x10 x11 y16 y17 y18 y19 y20 y21 y22 y23 y24 y25 y26 y27 y28 y29:Value),eB ks draws horizon m st=(st2,rs,0)→MsInv R base w w2 kb qb mb c sqb smb ov ents ks draws n (recs++rs).length st2 ov2 sov2 buf2 (recs++rs) →
    LoneTo Tryz.prog Q (G (msBase.at ⟨#[.pointer (some ⟨kb,0,none⟩),.int .i64 n,.int .i64 horizon,.chan (some c),undef,undef,undef,undef,x8,.pointer (some ⟨sqb,0,none⟩),x10,x11,.chan (some c),.pointer (some ⟨sqb,0,none⟩),.int .i64 n,.int .i64 i2,y16,y17,y18,y19,y20,y21,y22,y23,y24,y25,y26,y27,y28,y29],[d]⟩ k) cs) w2) →
   LoneTo Tryz.prog Q (G (msBase.at ⟨#[.pointer (some ⟨kb,0,none⟩),.int .i64 n,.int .i64 horizon,.chan (some c),undef,undef,undef,undef,x8,.pointer (some ⟨sqb,0,none⟩),x10,x11,.chan (some c),.pointer (some ⟨sqb,0,none⟩),.int .i64 n,.int .i64 (i:Int),y16,y17,y18,y19,y20,y21,y22,y23,y24,y25,y26,y27,y28,y29],[d]⟩ (.code ((Tryz.f89.body.bind eJ).getD .skip)::.inLoop ((Tryz.f89.body.bind eJ).getD .skip)::.inBlock 0::k)) cs) wr:=by
 induction m with
 | zero=>
  intro i st ov' sov' buf recs wr x8 x10 x11 y16 y17 y18 y19 y20 y21 y22 y23 y24 y25 y26 y27 y28 y29 him hI hret hend;have hin:decide (i<n)=false:=by simp;omega
  have hlen:=hI.len;refine aY ?_;refine bN ?_
  go_wp2
  refine aY ?_;refine iK (t:=decide (i<n)) (by first|rfl|(simp only[Act.eval,hin];rfl)) ?_
  rw[hin];simp only[Bool.false_eq_true,if_false];refine vF rfl ?_;refine hend st [] _ ov' sov' buf wr _ _ _ _ _ _ _ _ _ _ _ _ _ _ _ _ _ rfl ?_;rw[List.append_nil,hlen];exact hI
 | succ m ih=>
  intro i st ov' sov' buf recs wr x8 x10 x11 y16 y17 y18 y19 y20 y21 y22 y23 y24 y25 y26 y27 y28 y29 him hI hret hend;have hin:decide (i<n)=true:=by simp;omega
  have hlen:=hI.len;obtain⟨qx,hsp⟩:=hI.spare;have hzr:=hI.only.size;refine aY ?_;refine bN ?_
  go_wp2
  refine aY ?_;refine iK (t:=decide (i<n)) (by first|rfl|(simp only[Act.eval,hin];rfl)) ?_
  rw[hin];simp only[if_true];refine pE ?_;refine aY ?_;refine kU ?_;refine aY ?_;refine bN ?_;rcases hF:eN ks draws horizon st with⟨s2,_|r,why⟩
  ·go_wp2_with (go_at_call 116;refine(aCg hI.ker hsp hI.bes (by omega) (by omega) hI.ok hents hk8 hcode hd hF).mono ?_;rintro e' w2 ⟨rfl,hw0,ho2,ov2,sov2,qx2,hm2,hms2,hq2,hb2,hk2⟩;simp only[qY])
   have hw1:(why != 0)=true:=by simpa using hw0
   refine aY ?_;refine aY ?_;refine bN ?_
   go_wp2
   refine iK (t:=true) (by simp[Act.eval,hw1]) ?_
   simp only[if_true];refine aY ?_;refine bN ?_
   go_wp2
   refine LoneTo.step (step_solo_go rfl stepG_ret') ?_;refine hret why st [] _ ov2 sov2 buf _ _ _ _ _ _ _ _ _ _ _ _ _ _ _ _ _ _ ?_ ?_ hw0
   ·simp only[eB,hF]
   ·rw[List.append_nil,hlen];exact(hI.after ho2 hm2 hms2 hq2 hb2 hk2 hI.ok).below ((Below.refl _ _).alloc (Nat.le_refl _) _)
  ·have hr0:why=0:=by
    have:=hF;unfold eN at this
    split at this
    ·simp at this
    ·split at this
     ·simp at this
     ·simp only at this
      split at this
      ·simp at this;exact this.2.2.symm
      ·simp at this
   subst hr0
   go_wp2_with (go_at_call 116;refine(aCh hI.ker hsp hI.bes (by omega) (by omega) hI.ok hents hk8 hcode hd hF).mono ?_;rintro e' w2 ⟨tsa,tsc,rfl,ho2,hown2,ov2,sov2,qx2,hm2,hms2,hq2,hb2,hok2,hk2,hsep2⟩)
   have hI2:=hI.after ho2 hm2 hms2 hq2 hb2 hk2 hok2;have hz2:=ho2.size;obtain⟨W3,hW3⟩:∃ W3,W3=w2.alloc (.cells #[.int .i64 r.e.number,.int .i64 r.e.time,.int .i64 r.e.kind,.int .i64 r.e.entity,.slice tsa r.told.length tsc] 46):=⟨_,rfl⟩;have hb3:Below w2.heap.size w2 W3:=by rw[hW3];exact(Below.refl _ _).alloc (Nat.le_refl _) _
   have hz3:W3.heap.size=w2.heap.size+1:=by rw[hW3];simp
   have z:∀ (j:Nat) (v:Value),#[Value.int .i64 r.e.number,.int .i64 r.e.time,.int .i64 r.e.kind,.int .i64 r.e.entity,.slice tsa r.told.length tsc][j]?=some v→W3.cell? ⟨w2.heap.size,j,none⟩=some v:=by
    intro j v hv;rw[hW3,World.cell?_alloc_at _ _ _ _ rfl];exact hv
   have z0:=z 0 _ rfl;have z1:=z 1 _ rfl;have z2:=z 2 _ rfl;have z3:=z 3 _ rfl;have z4:=z 4 _ rfl;rw[←hW3];have hI3:=hI2.below hb3;clear hW3 z;refine aY ?_;refine aY ?_;refine bN ?_
   go_wp2
   refine iK (t:=false) (by simp[Act.eval]) ?_
   simp only[Bool.false_eq_true,if_false];refine pE ?_;have hload:∀ A:Act,A.eval (.tmp 10)=.pointer (some ⟨w2.heap.size,0,none⟩)→(Instr.loadAt 46 (A.eval (.tmp 10))).run Tryz.prog W3=.ok (gZ r.e (.slice tsa r.told.length tsc)) W3:=by
    intro A hA;rw[hA];simp[go_sem,z0,z1,z2,z3,z4,gZ]
   refine aC5 (v0:=.chan (some c)) (v1:=gZ r.e (.slice tsa r.told.length tsc)) (v:=gZ r.e (.slice tsa r.told.length tsc)) (c:=c) (cap:=n) (s:=i) (r:=0) (buf:=buf) (tm:=false) (xc:=.tmp 27) (xv:=.tmp 28) (by simp) rfl rfl rfl ?_ ?_ rfl rfl rfl hI3.chan (by rw[hI3.size];omega) ?_
   ·simp[execOp,Act.eval]
   ·simp[execOp,Act.eval,Act.put];have:=hload ⟨#[.pointer (some ⟨kb,0,none⟩),.int .i64 n,.int .i64 horizon,.chan (some c),undef,undef,undef,undef,x8,.pointer (some ⟨sqb,0,none⟩),.pointer (some ⟨w2.heap.size,0,none⟩)],[]⟩ rfl;simp[Act.eval]at this;simp[this]
   ·have htv:∀ b,some b=(Value.slice tsa r.told.length tsc).ownBlock→wr.heap.size≤b∧b<w2.heap.size:=fun b hb=>hown2.lt b hb.symm;have hown3:W3.ownsRow w.heap.size 3 1 (.slice tsa r.told.length tsc) r.told.length (ints r.told):=by
     obtain⟨h1,h2⟩:=bT hown2 (Only.new (S:=fun _=>False) hb3) (by simp)
     refine⟨h1,?_⟩;rcases h2 with h2|⟨g,cap,cur,hv,hg,rr⟩
     ·exact .inl h2
     ·exact .inr ⟨g,cap,cur,hv,by omega,rr⟩
    have hcl:=hI.cl;have hI4:=hI3.sent (r:=r) (sa:=tsa) (sc:=tsc) (lo:=wr.heap.size) hown3 (fun b hb=>⟨hsep2 b hb,(htv b hb).1,by have:=(htv b hb).2;omega⟩) (fun j v b hv hb=>(hI.rsep j v b hv hb).2.2.2) (by omega)
    generalize W3.setChan c n (buf.push (gZ r.e (.slice tsa r.told.length tsc))) false (i+1) 0 false=W4 at hI4 ⊢;refine oI ?_;refine bN ?_;simp only[Act.put]
    go_wp2
    refine pX ?_;refine ih (i+1) s2 ov2 sov2 (buf.push (gZ r.e (.slice tsa r.told.length tsc))) (recs++[r]) W4 _ _ _ _ _ _ _ _ _ _ _ _ _ _ _ _ _ (by omega) hI4 ?_ ?_
    ·intro why st2 rs i2 ov3 sov3 buf3 w3 x10 x11 y16 y17 y18 y19 y20 y21 y22 y23 y24 y25 y26 y27 y28 y29 k2 hR hI5 hw;refine hret why st2 (r::rs) i2 ov3 sov3 buf3 w3 x10 x11 y16 y17 y18 y19 y20 y21 y22 y23 y24 y25 y26 y27 y28 y29 k2 ?_ ?_ hw
     ·simp only[eB,hF,hR]
     ·simpa using hI5
    ·intro st2 rs i2 ov3 sov3 buf3 w3 x8 x10 x11 y16 y17 y18 y19 y20 y21 y22 y23 y24 y25 y26 y27 y28 y29 hR hI5;refine hend st2 (r::rs) i2 ov3 sov3 buf3 w3 x8 x10 x11 y16 y17 y18 y19 y20 y21 y22 y23 y24 y25 y26 y27 y28 y29 ?_ ?_
     ·simp only[eB,hF,hR]
     ·simpa using hI5
end Go.Proofs.YtndlmgocldckfaaGreat
