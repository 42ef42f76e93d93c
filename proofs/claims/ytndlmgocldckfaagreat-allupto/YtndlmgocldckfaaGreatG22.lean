import Derived.Test.YtndlmgocldckfaaGreatG18
import Derived.Test.YtndlmgocldckfaaGreatG03
import Derived.Test.YtndlmgocldckfaaGreatG11
namespace Go.Proofs.YtndlmgocldckfaaGreat
open Go.RowKit
set_option linter.unusedVariables false
set_option linter.unusedSimpArgs false
set_option maxRecDepth 100000
set_option maxHeartbeats 4000000
theorem zD(n:Int)(w:World) :
  Calls Tryz.prog 129 #[.int .i64 n] w fun e w'=>e=.returned (.int .i64 (fQ n))∧w'=w:=by
 have HC:Hid (∀ x,x=fQ n→Ending.returned (.int .i64 x)=Ending.returned (.int .i64 (fQ n))):=fun x h=>by rw[h]
 go_enter Tryz.func129,Tryz.ntmps129
 go_wp2
 all_goals
  go_ret;refine⟨HC.out _ ?_,rfl⟩;unfold fQ;omega
theorem EvsIn.src{R:Nat→Prop}{w:World}{v:Value}{q:List Ev}(h:EvsIn R w v q):eO w v q.length (aO (q.map aR)):=by
 obtain⟨rfl,rfl⟩|⟨b,off,cap,rfl,_,_,_,hc⟩:=h
 ·exact .inl ⟨rfl,rfl,rfl⟩
 ·exact .inr (.inl ⟨b,off,cap,rfl,hc.row⟩)
structure RefC(R:Nat→Prop)(w:World)(cb gb:Nat)(ents:Int)(ks:List (List Ins))(draws:List Int)(s:KS):Prop where
 c0:w.cell? ⟨cb,0,none⟩=some (.int .i64 ents)
 kinds:∃ kv,w.cell? ⟨cb,1,none⟩=some kv∧KindsIn R w kv ks
 draw:∃ dv,w.cell? ⟨cb,2,none⟩=some dv∧IntsIn R w dv draws
 c3:w.cell? ⟨cb,3,none⟩=some (.int .i64 s.taken)
 c4:w.cell? ⟨cb,4,none⟩=some (.int .i64 s.clock)
 c5:w.cell? ⟨cb,5,none⟩=some (.int .i64 s.next)
 c6:∃ cap,w.cell? ⟨cb,6,none⟩=some (.slice (some ⟨gb,0,none⟩) (ents*4).toNat cap)∧(ents*4).toNat≤cap∧cap≤9223372036854775807
 regs:∀ j,j<(ents*4).toNat→w.cell? ⟨gb,j,none⟩=some (.int .i64 (s.regs j))
 rroom:Room w gb (ents*4).toNat
 que:∃ qv,w.cell? ⟨cb,7,none⟩=some qv∧EvsIn R w qv s.q
 room:Room w cb 8
 ne:cb≠gb
 far:∀ b,R b→b<w.heap.size∧b≠cb∧b≠gb
theorem RefC.only{R S:Nat→Prop}{w w':World}{cb gb:Nat}{ents:Int}{ks:List (List Ins)}{draws:List Int}{s:KS}(h:RefC R w cb gb ents ks draws s)(ho:Only S w w')(hR:∀ b,R b→¬S b)(hc:¬S cb)(hg:¬S gb):RefC R w' cb gb ents ks draws s:=by
 obtain⟨kv,k1,k2⟩:=h.kinds;obtain⟨dv,d1,d2⟩:=h.draw;obtain⟨cap,r1,r2,r3⟩:=h.c6;obtain⟨qv,q1,q2⟩:=h.que;exact⟨ho.at h.c0 hc,⟨kv,ho.at k1 hc,k2.only ho hR⟩,⟨dv,ho.at d1 hc,d2.only ho hR⟩,ho.at h.c3 hc,ho.at h.c4 hc,ho.at h.c5 hc,⟨cap,ho.at r1 hc,r2,r3⟩,fun j hj=>ho.at (h.regs j hj) hg,h.rroom.only ho hg,⟨qv,ho.at q1 hc,q2.only ho hR⟩,h.room.only ho hc,h.ne,fun b hb=>⟨Nat.lt_of_lt_of_le (h.far b hb).1 ho.size,(h.far b hb).2⟩⟩
theorem RefC.ref{R:Nat→Prop}{w:World}{cb gb:Nat}{ents:Int}{ks:List (List Ins)}{draws:List Int}{s:KS}(h:RefC R w cb gb ents ks draws s)(he:0≤ents∧ents≤8):RefK (fun b=>R b∨b=gb) w cb ents ks draws s.taken s.clock s.next (cY ents s) s.q:=by
 obtain⟨kv,k1,k2⟩:=h.kinds;obtain⟨dv,d1,d2⟩:=h.draw;obtain⟨cap,r1,r2,r3⟩:=h.c6;obtain⟨qv,q1,q2⟩:=h.que;refine⟨⟨kv,dv,_,qv,h.c0,k1,d1,h.c3,h.c4,h.c5,r1,q1,k2.mono (fun b hb=>.inl hb),d2.mono (fun b hb=>.inl hb),⟨by rw[dI];omega,.inr ⟨gb,0,cap,by rw[dI],.inr rfl,?_⟩⟩,q2.mono (fun b hb=>.inl hb)⟩,h.room⟩
 intro j v hv;have hj:j<(ents*4).toNat:=by have:=(List.getElem?_eq_some_iff.1 hv).1;simpa [ints,cY]using this
 simp[ints,cY,hj]at hv;subst hv;rw[Nat.zero_add];exact h.regs j hj
theorem aAr{R:Nat→Prop}(rb:Nat)(ents:Int)(ks:List (List Ins))(draws:List Int)(s:KS)(w:World)(h:RefK R w rb ents ks draws s.taken s.clock s.next (cY ents s) s.q)(he:1≤ents∧ents≤8)(hR:∀ b,R b→b<w.heap.size)(hq:s.q.length≤16) :
  Calls Tryz.prog 91 #[.pointer (some ⟨rb,0,none⟩)] w fun e w'=>∃ cb gb,e=.returned (.pointer (some ⟨cb,0,none⟩))∧Below w.heap.size w w'∧w.heap.size≤cb∧cb<w'.heap.size∧w.heap.size≤gb∧gb<w'.heap.size∧RefC (fun b=>R b∨(w.heap.size≤b∧b<w'.heap.size∧b≠cb∧b≠gb)) w' cb gb ents ks draws s:=by
 obtain⟨⟨kv,dv,rv,qv,h0,h1,h2,h3,h4,h5,h6,h7,hk,hd,hr,hqv⟩,hroom⟩:=h;obtain⟨ka,kc,rfl⟩:=hk.form;obtain⟨da,dc,rfl⟩:=hd.form;obtain⟨ra,rc,rfl⟩:=hr.form;obtain⟨qa,qc,rfl⟩:=hqv.form;have Hk:=aB hk;have Hd:=aB hd;have Hr:=aB hr;have Hq:=aB hqv;have hrl:=aC h0;clear hk hd hr hqv hroom
 go_enter Tryz.func91,Tryz.ntmps91
 go_wp2_with fail
 have a0:∀ o,(w.alloc o).cell? ⟨rb,0,none⟩=some (.int .i64 ents):=fun o=>aA ((Below.refl w.heap.size w).alloc (Nat.le_refl _) o) h0 hrl;have a1:∀ o,(w.alloc o).cell? ⟨rb,1,none⟩=some (.slice ka ks.length kc):=fun o=>aA ((Below.refl w.heap.size w).alloc (Nat.le_refl _) o) h1 hrl;have a2:∀ o,(w.alloc o).cell? ⟨rb,2,none⟩=some (.slice da draws.length dc):=fun o=>aA ((Below.refl w.heap.size w).alloc (Nat.le_refl _) o) h2 hrl;have a3:∀ o,(w.alloc o).cell? ⟨rb,3,none⟩=some (.int .i64 s.taken):=fun o=>aA ((Below.refl w.heap.size w).alloc (Nat.le_refl _) o) h3 hrl;have a4:∀ o,(w.alloc o).cell? ⟨rb,4,none⟩=some (.int .i64 s.clock):=fun o=>aA ((Below.refl w.heap.size w).alloc (Nat.le_refl _) o) h4 hrl;have a5:∀ o,(w.alloc o).cell? ⟨rb,5,none⟩=some (.int .i64 s.next):=fun o=>aA ((Below.refl w.heap.size w).alloc (Nat.le_refl _) o) h5 hrl
 go_region_held3 (fun W'=>W'.cell? ⟨rb,0,none⟩=some (.int .i64 ents)∧W'.cell? ⟨rb,1,none⟩=some (.slice ka ks.length kc)∧W'.cell? ⟨rb,2,none⟩=some (.slice da draws.length dc)∧W'.cell? ⟨rb,3,none⟩=some (.int .i64 s.taken)∧W'.cell? ⟨rb,4,none⟩=some (.int .i64 s.clock)∧W'.cell? ⟨rb,5,none⟩=some (.int .i64 s.next))
  (first|exact⟨h0,h1,h2,h3,h4,h5⟩|exact⟨a0 _,a1 _,a2 _,a3 _,a4 _,a5 _⟩)
  (fail)
 go_wp2_with fail
 clear a0 a1 a2 a3 a4 a5;obtain⟨C,hC⟩:∃ C:Obj,C=.cells #[.int .i64 ents,.slice ka ks.length kc,.slice da draws.length dc,.int .i64 s.taken,.int .i64 s.clock,.int .i64 s.next,.slice none 0 0,.slice none 0 0] 117:=⟨_,rfl⟩
 obtain⟨W1,hW1⟩:∃ W1,W1=(w.alloc C).drew:=⟨_,rfl⟩;have hb1:Below w.heap.size w W1:=by rw[hW1];exact((Below.refl _ _).alloc (Nat.le_refl _) _).drew
 have hz1:W1.heap.size=w.heap.size+1:=by rw[hW1];show(w.alloc C).heap.size=_;simp
 rw[←hC,←hW1];have x:∀ (j:Nat) v,#[Value.int .i64 ents,.slice ka ks.length kc,.slice da draws.length dc,.int .i64 s.taken,.int .i64 s.clock,.int .i64 s.next,.slice none 0 0,.slice none 0 0][j]?=some v→W1.cell? ⟨w.heap.size,j,none⟩=some v:=by
  intro j v hv;rw[hW1];show(w.alloc C).cell? _=_;rw[hC,World.cell?_alloc_at _ _ _ _ rfl];exact hv
 have hr1:Room W1 w.heap.size 8:=by
  intro j hj;rw[hW1];show((w.alloc C).cell? _).isSome=true∧(w.alloc C).frozen? _=false;rw[hC,World.cell?_alloc_at _ _ _ _ rfl,World.frozen?_alloc_at _ _ _ _ rfl];have:j=0∨j=1∨j=2∨j=3∨j=4∨j=5∨j=6∨j=7:=by omega
  rcases this with rfl|rfl|rfl|rfl|rfl|rfl|rfl|rfl<;>exact⟨rfl,rfl⟩
 have x6:=x 6 _ rfl;have x6d:W1.drew.cell? ⟨w.heap.size,6,none⟩=some (.slice none 0 0):=x6;have y6:=aA hb1 h6 hrl;have y6d:W1.drew.cell? ⟨rb,6,none⟩=some (.slice ra (cY ents s).length rc):=y6;have y7:=aA hb1 h7 hrl;have Hy7:=aB h7;have Hx:=aB x;have Hr1:=aB hr1;have HB1:=aB hb1;have HSr:Hid (eO W1.drew (.slice ra (cY ents s).length rc) (cY ents s).length (ints (cY ents s))):=((Hr.out.only (Only.new (S:=fun _=>False) hb1) (by simp)).only (Only.new (S:=fun _=>False) (Below.refl _ _).drew) (by simp)).src
 have hrgl:(cY ents s).length=(ents*4).toNat:=dI ents s;have hrg32:(cY ents s).length≤32:=by omega
 have hrg0:0<(cY ents s).length:=by omega
 have Hrgl:=aB hrgl;obtain⟨rl,hrl'⟩:∃ rl,rl=cY ents s:=⟨_,rfl⟩;have Hrl:Hid (cY ents s=rl):=hrl'.symm;rw[←hrl']at HSr hrg32 hrg0 y6 y6d Hrgl;clear hrl';clear x hr1 hb1 hW1 hC h0 h1 h2 h3 h4 h5 h6 h7 hrgl
 go_region_law (first|(refine cQ rfl (.tmp 30) (.tmp 34) 24 rfl (w.heap.size+1) 3 (.int .i64 0) 1 8 Tryz.underlying24 Tryz.info3 rfl (by omega) (.slice none 0 0) 0 [] rfl (World.ownsRow_nil _ _ _ _) _ rl.length (ints rl) rfl HSr.out (by simp[ints]) (oB _) (by omega) (by omega) (by show _≤W1.heap.size;omega) ?_;intro v2 w2 hown2 hgr2 hwh2;(have ho2:=aF hgr2.out);(have z6:=ho2.at x6d (by simp[Value.ownBlock]));(have f6:=((Hr1.out.only (Only.new (S:=fun _=>False) (Below.refl _ _).drew) (by simp)).only ho2 (by simp[Value.ownBlock]) 6 (by omega)).2);obtain⟨sa2,sc2,rfl⟩:=dE hown2.out))
 all_goals
  obtain⟨g2,cap2,hv2,hg2,hgl2,hrow2⟩:∃ g cap,Value.slice sa2 (0+rl.length) sc2=.slice (some ⟨g,0,none⟩) rl.length cap∧w.heap.size+1≤g∧g<w2.heap.size∧RowAt w2 g 0 (ints rl):=by
   rcases bK hown2.out with⟨e,h0,_⟩|⟨g,cap,e,q1,q2,q3⟩
   ·omega
   ·exact⟨g,cap,by rw[e,Nat.zero_add],q1,q2,by simpa using q3⟩
  have hro2:Room w2 g2 rl.length:=by
   obtain⟨_,⟨e,_⟩|⟨g,cap,cur,e,_,hh,hn,_,hcs,_⟩⟩:=hown2.out
   ·rw[e]at hv2;simp at hv2
   ·rw[e]at hv2;simp only[Value.slice.injEq,Option.some.injEq,Addr.mk.injEq]at hv2;obtain⟨⟨rfl,_⟩,_,_⟩:=hv2;intro j hj;have:j<cur.size:=by rw[hcs];omega
    simp[World.cell?,World.frozen?,hh,this]
  have hcap2:rl.length≤cap2∧cap2≤9223372036854775807:=by
   obtain⟨_,⟨e,_⟩|⟨g,cap,cur,e,_,hh,hn,hm,hcs,_⟩⟩:=hown2.out
   ·rw[e]at hv2;simp at hv2
   ·rw[e]at hv2;simp only[Value.slice.injEq]at hv2;unfold maxLen at hm;omega
  simp only[Value.slice.injEq]at hv2;obtain⟨rfl,_,rfl⟩:=hv2;have hz2:=ho2.size;have hzd:W1.drew.heap.size=W1.heap.size:=rfl;obtain⟨W2,hW2⟩:∃ W2,W2=w2.setCell ⟨w.heap.size,6,none⟩ (.slice (some ⟨g2,0,none⟩) rl.length sc2):=⟨_,rfl⟩;have hO2:Only (fun b=>b=w.heap.size) W1 W2:=by
   rw[hW2];exact Only.setCell (S:=fun b=>b=w.heap.size) ((Only.new (Below.refl _ _).drew).trans (ho2.mono (fun k _ hc=>by simp[Value.ownBlock]at hc))) (p:=⟨w.heap.size,6,none⟩) rfl _
  have hB2:Below w.heap.size w W2:=HB1.out.trans (hO2.below (by omega) (fun k hk hc=>by omega))
  have hzW2:W2.heap.size=w2.heap.size:=by rw[hW2];simp[World.setCell]
  have hr2:Room W2 w.heap.size 8:=by
   rw[hW2];exact((Hr1.out.only (Only.new (S:=fun _=>False) (Below.refl _ _).drew) (by simp)).only ho2 (by simp[Value.ownBlock])).setCell _ _
  have hne6:∀ j v,j≠6→W1.cell? ⟨w.heap.size,j,none⟩=some v→W2.cell? ⟨w.heap.size,j,none⟩=some v:=by
   intro j v hj hv;rw[hW2,World.cell?_setCell_other _ _ _ _ (by simp<;>omega)]
   exact ho2.at (w:=W1.drew) hv (by simp[Value.ownBlock])
  have t6:W2.cell? ⟨w.heap.size,6,none⟩=some (.slice (some ⟨g2,0,none⟩) rl.length sc2):=by rw[hW2];exact World.cell?_setCell_same' _ _ _ (by rw[z6];rfl)
  have Hrw2:Hid (RowAt W2 g2 0 (ints rl)):=by rw[hW2];exact hrow2.setCell _ _ (by intro j _ hc;simp at hc<;>omega)
  have Hro2:Hid (Room W2 g2 rl.length):=by rw[hW2];exact hro2.setCell _ _
  have x7:=hne6 7 _ (by omega) (Hx.out 7 _ rfl)
  have x7d:W2.drew.cell? ⟨w.heap.size,7,none⟩=some (.slice none 0 0):=x7;have z7:=aA hB2 Hy7.out hrl;have z7d:W2.drew.cell? ⟨rb,7,none⟩=some (.slice qa s.q.length qc):=z7;have HSq:Hid (eO W2.drew (.slice qa s.q.length qc) s.q.length (aO (s.q.map aR))):=((Hq.out.only (Only.new (S:=fun _=>False) hB2) (by simp)).only (Only.new (S:=fun _=>False) (Below.refl _ _).drew) (by simp)).src
  have Hne6:=aB hne6;have HB2:=aB hB2;have Hr2:=aB hr2
  go_wp2_with fail
  rw[←hW2];have Ht6:=aB t6;clear hW2 hO2 hne6 hB2 hr2 hown2 hgr2 hwh2 ho2 z6 f6 hrow2 hro2 x6 x6d y6 y6d y7 t6
  go_region_law (first|(refine cQ rfl (.tmp 42) (.tmp 46) 115 rfl W2.heap.size 143 (.agg #[.int .i64 0,.int .i64 0,.int .i64 0,.int .i64 0]) 4 32 Tryz.underlying115 Tryz.info129 rfl (by omega) (.slice none 0 0) 0 [] rfl (World.ownsRow_nil _ _ _ _) _ s.q.length (aO (s.q.map aR)) rfl HSq.out (by simp[cL]) (dH _) (by omega) (by omega) (by exact Nat.le_refl _) ?_;intro v3 w3 hown3 hgr3 hwh3;(have ho3:=aF hgr3.out);(have u7:=ho3.at x7d (by simp[Value.ownBlock]));(have f7:=((Hr2.out.only (Only.new (S:=fun _=>False) (Below.refl _ _).drew) (by simp)).only ho3 (by simp[Value.ownBlock]) 7 (by omega)).2);obtain⟨sa3,sc3,rfl⟩:=dE hown3.out))
  all_goals
   have hz3:=ho3.size;have hzd2:W2.drew.heap.size=W2.heap.size:=rfl;have Hown3:=aB hown3.out;obtain⟨W3,hW3⟩:∃ W3,W3=w3.setCell ⟨w.heap.size,7,none⟩ (.slice sa3 (0+s.q.length) sc3):=⟨_,rfl⟩;have hW3':=hW3;rw[Nat.zero_add]at hW3';have hO3:Only (fun b=>b=w.heap.size) W2 W3:=by
    rw[hW3];exact Only.setCell (S:=fun b=>b=w.heap.size) ((Only.new (Below.refl _ _).drew).trans (ho3.mono (fun k _ hc=>by simp[Value.ownBlock]at hc))) (p:=⟨w.heap.size,7,none⟩) rfl _
   have hzW3:W3.heap.size=w3.heap.size:=by rw[hW3];simp[World.setCell]
   have hB3:Below w.heap.size w W3:=HB2.out.trans (hO3.below (by omega) (fun k hk hc=>by omega))
   have v7:W3.cell? ⟨w.heap.size,7,none⟩=some (.slice sa3 (0+s.q.length) sc3):=by rw[hW3];exact World.cell?_setCell_same' _ _ _ (by rw[u7];rfl)
   have hne7:∀ j v,j≠7→W2.cell? ⟨w.heap.size,j,none⟩=some v→W3.cell? ⟨w.heap.size,j,none⟩=some v:=by
    intro j v hj hv;rw[hW3,World.cell?_setCell_other _ _ _ _ (by simp<;>omega)]
    exact ho3.at (w:=W2.drew) hv (by simp[Value.ownBlock])
   have hro3:Room W3 w.heap.size 8:=by
    rw[hW3];exact((Hr2.out.only (Only.new (S:=fun _=>False) (Below.refl _ _).drew) (by simp)).only ho3 (by simp[Value.ownBlock])).setCell _ _
   have hevs:EvsIn (fun b=>W2.heap.size≤b∧b<W3.heap.size) W3 (.slice sa3 (0+s.q.length) sc3) s.q:=by
    obtain⟨hx,⟨e1,e2⟩|⟨g,cap,cur,e,hg,hh,hn,hm,hcs,ht⟩⟩:=Hown3.out
    ·have hq0:s.q=[]:=List.eq_nil_of_length_eq_zero (by omega)
     rw[e1];exact .inl ⟨rfl,hq0⟩
    ·rw[e];have hgl:=(Array.getElem?_eq_some_iff.1 hh).1;rw[Nat.zero_add]at hn;refine .inr ⟨g,0,cap,by rw[Nat.zero_add],hn,by unfold maxLen at hm;omega,⟨hg,by omega⟩,?_⟩
     have hrow:RowAt W3 g 0 (aO (s.q.map aR)):=by
      rcases bK Hown3.out with⟨e',_,_⟩|⟨g',cap',e',_,_,q3⟩
      ·rw[e]at e';simp at e'
      ·rw[e]at e';simp only[Value.slice.injEq,Option.some.injEq,Addr.mk.injEq]at e';obtain⟨⟨rfl,_⟩,_⟩:=e';rw[hW3];exact(by simpa using q3:RowAt w3 g 0 (aO (s.q.map aR))).setCell _ _ (by intro j _ hc;simp at hc<;>omega)
     exact hrow.code
   have hreg:∀ j,j<(ents*4).toNat→W3.cell? ⟨g2,j,none⟩=some (.int .i64 (s.regs j)):=by
    intro j hj;have:=hO3.at (Hrw2.out j (.int .i64 (s.regs j)) (by rw[←Hrl.out];simp[ints,cY,hj])) (by omega)
    rw[Nat.zero_add]at this;exact this
   have HF:Hid (RefC (fun b=>R b∨(w.heap.size≤b∧b<W3.heap.size∧b≠w.heap.size∧b≠g2)) W3 w.heap.size g2 ents ks draws s):=by
    have hR3:∀ {v l},KindsIn R w v l→KindsIn (fun b=>R b∨(w.heap.size≤b∧b<W3.heap.size∧b≠w.heap.size∧b≠g2)) W3 v l:=fun h=>(h.only (Only.new (S:=fun _=>False) hB3) (by simp)).mono (fun b hb=>.inl hb)
    have hR4:∀ {v l},IntsIn R w v l→IntsIn (fun b=>R b∨(w.heap.size≤b∧b<W3.heap.size∧b≠w.heap.size∧b≠g2)) W3 v l:=fun h=>(h.only (Only.new (S:=fun _=>False) hB3) (by simp)).mono (fun b hb=>.inl hb)
    refine⟨hne7 0 _ (by omega) (Hne6.out 0 _ (by omega) (Hx.out 0 _ rfl)),⟨_,hne7 1 _ (by omega) (Hne6.out 1 _ (by omega) (Hx.out 1 _ rfl)),hR3 Hk.out⟩,⟨_,hne7 2 _ (by omega) (Hne6.out 2 _ (by omega) (Hx.out 2 _ rfl)),hR4 Hd.out⟩,hne7 3 _ (by omega) (Hne6.out 3 _ (by omega) (Hx.out 3 _ rfl)),hne7 4 _ (by omega) (Hne6.out 4 _ (by omega) (Hx.out 4 _ rfl)),hne7 5 _ (by omega) (Hne6.out 5 _ (by omega) (Hx.out 5 _ rfl)),⟨sc2,?_,?_,hcap2.2⟩,hreg,?_,⟨_,v7,hevs.mono (fun b hb=>.inr ⟨by omega,hb.2,by omega,by omega⟩)⟩,hro3,by omega,?_⟩
    ·have:=hne7 6 _ (by omega) Ht6.out
     rw[Hrgl.out]at this;exact this
    ·have:=hcap2.1;have:=Hrgl.out;omega
    ·have:=Hro2.out.only hO3 (by omega)
     rw[Hrgl.out]at this;exact this
    ·rintro b (hb|hb)
     ·have:=hR b hb;exact⟨by omega,by omega,by omega⟩
     ·exact⟨hb.2.1,hb.2.2.1,hb.2.2.2⟩
   have hg3:g2<W3.heap.size:=by omega
   have hw3:w.heap.size<W3.heap.size:=by omega
   have HB3:=aB hB3
   go_wp2_with fail
   go_ret;rw[←hW3'];exact⟨w.heap.size,g2,rfl,HB3.out,Nat.le_refl _,hw3,by omega,hg3,HF.out⟩
section
variable {R : Nat → Prop} {w w' : World} {cb gb : Nat} {ents : Int} {ks : List (List Ins)} {draws : List Int} {s : KS}
theorem RefC.setReg(h:RefC R w cb gb ents ks draws s){i:Nat}(hi:i<(ents*4).toNat)(v:Int):RefC R (w.setCell ⟨gb,i,none⟩ (.int .i64 v)) cb gb ents ks draws {s with regs:=cD s.regs i v}:=by
 have hne:=h.ne;have ho:Only (·=gb) w (w.setCell ⟨gb,i,none⟩ (.int .i64 v)):=(Only.refl (·=gb) w).setCell (p:=⟨gb,i,none⟩) (show gb=gb from rfl) _
 have hR:∀ b,R b→¬b=gb:=fun b hb=>(h.far b hb).2.2;obtain⟨kv,k1,k2⟩:=h.kinds;obtain⟨dv,d1,d2⟩:=h.draw;obtain⟨cap,r1,r2,r3⟩:=h.c6;obtain⟨qv,q1,q2⟩:=h.que;refine⟨ho.at h.c0 hne,⟨kv,ho.at k1 hne,k2.only ho hR⟩,⟨dv,ho.at d1 hne,d2.only ho hR⟩,ho.at h.c3 hne,ho.at h.c4 hne,ho.at h.c5 hne,⟨cap,ho.at r1 hne,r2,r3⟩,?_,h.rroom.setCell _ _,⟨qv,ho.at q1 hne,q2.only ho hR⟩,h.room.only ho hne,h.ne,fun b hb=>⟨by have:=(h.far b hb).1;simpa [World.setCell]using this,(h.far b hb).2⟩⟩
 intro j hj
 by_cases hji:j=i
 ·subst hji;simp only[cD,if_true];exact World.cell?_setCell_same' _ _ _ (h.rroom j hj).1
 ·rw[World.cell?_setCell_other _ _ _ _ (by simp<;>omega)]
  simp only[cD];rw[if_neg hji];exact h.regs j hj
theorem RefC.wide(h:RefC R w cb gb ents ks draws s){z:Nat}(hc:cb<z)(hg:gb<z):RefC (fun b=>R b∨(z≤b∧b<w.heap.size)) w cb gb ents ks draws s:=by
 obtain⟨kv,k1,k2⟩:=h.kinds;obtain⟨dv,d1,d2⟩:=h.draw;obtain⟨qv,q1,q2⟩:=h.que;refine⟨h.c0,⟨kv,k1,k2.mono (fun b hb=>.inl hb)⟩,⟨dv,d1,d2.mono (fun b hb=>.inl hb)⟩,h.c3,h.c4,h.c5,h.c6,h.regs,h.rroom,⟨qv,q1,q2.mono (fun b hb=>.inl hb)⟩,h.room,h.ne,?_⟩;rintro b (hb|hb)
 ·exact h.far b hb
 ·exact⟨hb.2,by omega,by omega⟩
theorem RefC.wrote(h:RefC R w cb gb ents ks draws s){o:Nat}{v:Value}{s':KS}(ho:o=3∨o=4∨o=7)(hr:s'.regs=s.regs)(hn:s'.next=s.next)
  (h3:(w.setCell ⟨cb,o,none⟩ v).cell? ⟨cb,3,none⟩=some (.int .i64 s'.taken)) (h4:(w.setCell ⟨cb,o,none⟩ v).cell? ⟨cb,4,none⟩=some (.int .i64 s'.clock))
  (hq:∃ qv,(w.setCell ⟨cb,o,none⟩ v).cell? ⟨cb,7,none⟩=some qv∧EvsIn R (w.setCell ⟨cb,o,none⟩ v) qv s'.q):RefC R (w.setCell ⟨cb,o,none⟩ v) cb gb ents ks draws s':=by
 have hon:Only (·=cb) w (w.setCell ⟨cb,o,none⟩ v):=(Only.refl (·=cb) w).setCell (p:=⟨cb,o,none⟩) (show cb=cb from rfl) _
 have hR:∀ b,R b→¬b=cb:=fun b hb=>(h.far b hb).2.1;have oth:∀ i u,i≠3→i≠4→i≠7→w.cell? ⟨cb,i,none⟩=some u→(w.setCell ⟨cb,o,none⟩ v).cell? ⟨cb,i,none⟩=some u:=fun i u _ _ _ hu=>(World.cell?_setCell_other _ _ _ _ (by simp<;>omega)).trans hu
 obtain⟨kv,k1,k2⟩:=h.kinds;obtain⟨dv,d1,d2⟩:=h.draw;obtain⟨cap,r1,r2,r3⟩:=h.c6;refine⟨oth 0 _ (by omega) (by omega) (by omega) h.c0,⟨kv,oth 1 _ (by omega) (by omega) (by omega) k1,k2.only hon hR⟩,⟨dv,oth 2 _ (by omega) (by omega) (by omega) d1,d2.only hon hR⟩,h3,h4,?_,⟨cap,oth 6 _ (by omega) (by omega) (by omega) r1,r2,r3⟩,fun j hj=>?_,h.rroom.only hon (Ne.symm h.ne),hq,h.room.setCell _ _,h.ne,fun b hb=>⟨Nat.lt_of_lt_of_le (h.far b hb).1 hon.size,(h.far b hb).2⟩⟩
 ·rw[hn];exact oth 5 _ (by omega) (by omega) (by omega) h.c5
 ·rw[hr];exact hon.at (h.regs j hj) (Ne.symm h.ne)
theorem RefC.setTaken(h:RefC R w cb gb ents ks draws s)(t:Nat):RefC R (w.setCell ⟨cb,3,none⟩ (.int .i64 (t:Int))) cb gb ents ks draws {s with taken:=t}:=by
 obtain⟨qv,q1,q2⟩:=h.que;have hon:Only (·=cb) w (w.setCell ⟨cb,3,none⟩ (.int .i64 (t:Int))):=(Only.refl (·=cb) w).setCell (p:=⟨cb,3,none⟩) (show cb=cb from rfl) _
 exact h.wrote (.inl rfl) rfl rfl (World.cell?_setCell_same _ _ _ h.c3) ((World.cell?_setCell_other _ _ _ _ (by simp)).trans h.c4) ⟨qv,(World.cell?_setCell_other _ _ _ _ (by simp)).trans q1,q2.only hon (fun b hb=>(h.far b hb).2.1)⟩
theorem RefC.setClock(h:RefC R w cb gb ents ks draws s)(t:Int):RefC R (w.setCell ⟨cb,4,none⟩ (.int .i64 t)) cb gb ents ks draws {s with clock:=t}:=by
 obtain⟨qv,q1,q2⟩:=h.que;have hon:Only (·=cb) w (w.setCell ⟨cb,4,none⟩ (.int .i64 t)):=(Only.refl (·=cb) w).setCell (p:=⟨cb,4,none⟩) (show cb=cb from rfl) _
 exact h.wrote (.inr (.inl rfl)) rfl rfl ((World.cell?_setCell_other _ _ _ _ (by simp)).trans h.c3) (World.cell?_setCell_same _ _ _ h.c4) ⟨qv,(World.cell?_setCell_other _ _ _ _ (by simp)).trans q1,q2.only hon (fun b hb=>(h.far b hb).2.1)⟩
theorem RefC.setQueue(h:RefC R w cb gb ents ks draws s)(v:Value)(q:List Ev)(hv:EvsIn R w v q):RefC R (w.setCell ⟨cb,7,none⟩ v) cb gb ents ks draws {s with q:=q}:=by
 have hon:Only (·=cb) w (w.setCell ⟨cb,7,none⟩ v):=(Only.refl (·=cb) w).setCell (p:=⟨cb,7,none⟩) (show cb=cb from rfl) _
 exact h.wrote (.inr (.inr rfl)) rfl rfl ((World.cell?_setCell_other _ _ _ _ (by simp)).trans h.c3) ((World.cell?_setCell_other _ _ _ _ (by simp)).trans h.c4) ⟨v,World.cell?_setCell_same' _ _ _ (h.room 7 (by omega)).1,hv.only hon (fun b hb=>(h.far b hb).2.1)⟩
theorem RefC.planned(h:RefC R w cb gb ents ks draws s){q:List Ev}(hz:cb<w.heap.size∧gb<w.heap.size)(ho:Only (·=cb) w w')(hp:mE w w' cb s.next q):RefC (fun b=>R b∨(w.heap.size≤b∧b<w'.heap.size)) w' cb gb ents ks draws {s with q:=q,next:=s.next+1}:=by
 obtain⟨hk,h5,⟨qv,q1,q2⟩,hrm⟩:=hp;have hR:∀ b,R b→¬b=cb:=fun b hb=>(h.far b hb).2.1;obtain⟨kv,k1,k2⟩:=h.kinds;obtain⟨dv,d1,d2⟩:=h.draw;obtain⟨cap,r1,r2,r3⟩:=h.c6;refine⟨hk 0 _ (by omega) (by omega) h.c0,⟨kv,hk 1 _ (by omega) (by omega) k1,(k2.only ho hR).mono (fun b hb=>.inl hb)⟩,⟨dv,hk 2 _ (by omega) (by omega) d1,(d2.only ho hR).mono (fun b hb=>.inl hb)⟩,hk 3 _ (by omega) (by omega) h.c3,hk 4 _ (by omega) (by omega) h.c4,h5,⟨cap,hk 6 _ (by omega) (by omega) r1,r2,r3⟩,fun j hj=>ho.at (h.regs j hj) (Ne.symm h.ne),h.rroom.only ho (Ne.symm h.ne),⟨qv,q1,q2.mono (fun b hb=>.inr hb)⟩,hrm,h.ne,?_⟩
 rintro b (hb|hb)
 ·exact⟨Nat.lt_of_lt_of_le (h.far b hb).1 ho.size,(h.far b hb).2⟩
 ·exact⟨hb.2,by omega,by omega⟩
end
def eF(R:Nat→Prop)(cb gb:Nat)(ents:Int)(ks:List (List Ins))(draws:List Int)(w:World)(F:KS×List Int×Int)(e:Ending)(w':World):Prop:=
 ∃ ta tc,e=.returned (.tuple #[.slice ta F.2.1.length tc,.int .i64 F.2.2])∧Only (fun b=>b=cb∨b=gb) w w'∧(F.2.2=0→RefC (fun b=>R b∨(w.heap.size≤b∧b<w'.heap.size)) w' cb gb ents ks draws F.1∧IntsIn (fun b=>w.heap.size≤b∧b<w'.heap.size) w' (.slice ta F.2.1.length tc) F.2.1)
theorem gG{R:Nat→Prop}{cb gb:Nat}{ents:Int}{ks:List (List Ins)}{draws:List Int}{w w':World}{s':KS}(hc:cb<w.heap.size)(hg:gb<w.heap.size)(ho:Only (fun b=>b=cb∨b=gb) w w')(h:RefC R w' cb gb ents ks draws s') :
  eF R cb gb ents ks draws w (s',[],0) (.returned (.tuple #[.slice none 0 0,.int .i64 0])) w':=
 ⟨_,_,rfl,ho,fun _=>⟨h.wide hc hg,by simp,.inl ⟨rfl,rfl⟩⟩⟩
theorem kA{R:Nat→Prop}{cb gb:Nat}{ents:Int}{ks:List (List Ins)}{draws:List Int}{w w':World}{s':KS}{why:Int}(hw:why≠0)(ho:Only (fun b=>b=cb∨b=gb) w w') :
  eF R cb gb ents ks draws w (s',[],why) (.returned (.tuple #[.slice none 0 0,.int .i64 why])) w':=
 ⟨_,_,rfl,ho,fun h=>absurd h hw⟩
theorem aEl{R:Nat→Prop}(cb gb:Nat)(ents:Int)(ks:List (List Ins))(draws:List Int)(s:KS)(a:Nat)(xb:Int)(ha:a<4)(et en ek:Int)(E:Nat)(w:World)(h:RefC R w cb gb ents ks draws s)(he:1≤ents∧ents≤8)(hE:(E:Int)<ents) :
  Calls Tryz.prog 117 #[.pointer (some ⟨cb,0,none⟩),.agg #[.int .i64 1,.int .i64 (a:Int),.int .i64 xb,.int .i64 0],.agg #[.int .i64 et,.int .i64 en,.int .i64 ek,.int .i64 (E:Int)]] w fun e w'=>eF R cb gb ents ks draws w ({s with regs:=cD s.regs (E*4+a) xb},[],0) e w':=by
 obtain⟨cap,r1,r2,r3⟩:=h.c6;have H:=aB h;have hcl:=aC r1;have hgl:=aC (h.regs 0 (by omega))
 obtain⟨N,hN⟩:=Int.eq_ofNat_of_zero_le (show 0≤ents*4 by omega)
 have hNn:(ents*4).toNat=N:=by omega
 have hreg:=h.regs;have hrr:=h.rroom;rw[hNn]at r1 r2 hreg hrr;have hEN:E*4+4≤N:=by omega
 obtain⟨F,hF⟩:∃ F,F=E*4:=⟨_,rfl⟩;have w1:IntKind.i64.wrap ((E:Int)*4)=(F:Int):=by rw[IntKind.wrap_i64];omega
 have w2:IntKind.i64.wrap ((F:Int)+4)=(F:Int)+4:=by rw[IntKind.wrap_i64];omega
 have b1:(0:Int)≤(F:Int):=by omega
 have b2:(F:Int)≤(F:Int)+4:=by omega
 have b3:(F:Int)+4≤(cap:Int):=by omega
 have b4:¬cap=F:=by omega
 have b5:F+4≤cap:=by omega
 have b6:F≤F+4:=by omega
 have t4:((F:Int)+4).toNat=F+4:=by omega
 have t5:F+4-F=4:=by omega
 obtain⟨W1,hW1⟩:∃ W1,W1=(w.alloc (.cells #[.int .i64 1,.int .i64 (a:Int),.int .i64 xb,.int .i64 0] 59)).alloc (.cells #[.int .i64 et,.int .i64 en,.int .i64 ek,.int .i64 (E:Int)] 143):=⟨_,rfl⟩;have hb1:Below w.heap.size w W1:=by rw[hW1];exact((Below.refl _ _).alloc (Nat.le_refl _) _).alloc (by simp) _
 have hzW1:W1.heap.size=w.heap.size+2:=by rw[hW1];simp
 have z1:=aA hb1 r1 hcl;have x3:W1.cell? ⟨w.heap.size+1,3,none⟩=some (.int .i64 (E:Int)):=by rw[hW1];simp[go_sem]
 have y0:W1.cell? ⟨w.heap.size,0,none⟩=some (.int .i64 1):=by rw[hW1];simp[go_sem]
 have y1:W1.cell? ⟨w.heap.size,1,none⟩=some (.int .i64 (a:Int)):=by rw[hW1];simp[go_sem]
 have y2:W1.cell? ⟨w.heap.size,2,none⟩=some (.int .i64 xb):=by rw[hW1];simp[go_sem]
 have y3:W1.cell? ⟨w.heap.size,3,none⟩=some (.int .i64 0):=by rw[hW1];simp[go_sem]
 have hreg1:∀ i,i<4→W1.cell? ⟨gb,F+i,none⟩=some (.int .i64 (s.regs (E*4+i))):=fun i hi=>by rw[hF];exact aA hb1 (hreg (E*4+i) (by omega)) hgl
 have hfro1:∀ i,i<4→W1.frozen? ⟨gb,F+i,none⟩=false:=fun i hi=>by rw[hF];exact(hb1.frozen (p:=⟨gb,E*4+i,none⟩) hgl).trans (hrr (E*4+i) (by omega)).2
 have Hreg1:=aB hreg1;have Hfro1:=aB hfro1;have HB1:=aB hb1;have HF:=aB hF;have H1:=aB (H.out.only (Only.new (S:=fun _=>False) hb1) (by simp) (by simp) (by simp))
 have HNn:=aB hNn;have b7:(0:Int)≤(a:Int):=by omega
 have b8:(a:Int)<4:=by omega
 clear h hb1 hF hreg hrr hreg1 hfro1 hN hNn
 go_enter Tryz.func117,Tryz.ntmps117
 go_wp2_with fail
 rw[←hW1];clear hW1
 go_quiet (fail)
 obtain⟨W2,hW2⟩:∃ W2,W2=W1.drewN nq:=⟨_,rfl⟩;rw[←hW2];have hb2:Below W1.heap.size W1 W2:=by rw[hW2];exact below_drewN (Below.refl _ _) _
 have hz2:=hb2.size
 replace y0:=aA hb2 y0 (by omega)
 replace y1:=aA hb2 y1 (by omega)
 replace y2:=aA hb2 y2 (by omega)
 replace y3:=aA hb2 y3 (by omega)
 have Hreg2:Hid (∀ i,i<4→W2.cell? ⟨gb,F+i,none⟩=some (.int .i64 (s.regs (E*4+i)))):=fun i hi=>aA hb2 (Hreg1.out i hi) (by omega)
 have Hfro2:Hid (∀ i,i<4→W2.frozen? ⟨gb,F+i,none⟩=false):=fun i hi=>(hb2.frozen (p:=⟨gb,F+i,none⟩) (by show gb<_;omega)).trans (Hfro1.out i hi)
 have H2:=aB (H1.out.only (Only.new (S:=fun _=>False) hb2) (by simp) (by simp) (by simp))
 have HB2:Hid (Below w.heap.size w W2):=HB1.out.trans (hb2.mono (by omega))
 clear hW2 hb2 x3 z1;have HS:Hid (RefC R (W2.setCell ⟨gb,F+a,none⟩ (.int .i64 xb)) cb gb ents ks draws {s with regs:=cD s.regs (E*4+a) xb}):=by rw[HF.out];exact H2.out.setReg (by have:=HNn.out;omega) _
 have HO:Hid (Only (fun b=>b=cb∨b=gb) w (W2.setCell ⟨gb,F+a,none⟩ (.int .i64 xb))):=(Only.new HB2.out).setCell (p:=⟨gb,F+a,none⟩) (.inr rfl) _;have ca:=Hreg2.out a ha;have fa:=Hfro2.out a ha
 go_wp2_with fail
 go_ret2;exact gG hcl hgl HO.out HS.out
theorem aEm{R:Nat→Prop}(cb gb:Nat)(ents:Int)(ks:List (List Ins))(draws:List Int)(s:KS)(a b:Nat)(ha:a<4)(hb:b<4)(hok:∀ j,-1000000000≤s.regs j∧s.regs j≤1000000000)(et en ek:Int)(E:Nat)(w:World)(h:RefC R w cb gb ents ks draws s)(he:1≤ents∧ents≤8)(hE:(E:Int)<ents) :
  Calls Tryz.prog 117 #[.pointer (some ⟨cb,0,none⟩),.agg #[.int .i64 2,.int .i64 (a:Int),.int .i64 (b:Int),.int .i64 0],.agg #[.int .i64 et,.int .i64 en,.int .i64 ek,.int .i64 (E:Int)]] w fun e w'=>eF R cb gb ents ks draws w ({s with regs:=cD s.regs (E*4+a) (fQ (s.regs (E*4+a)+s.regs (E*4+b)))},[],0) e w':=by
 obtain⟨cap,r1,r2,r3⟩:=h.c6;have H:=aB h;have hcl:=aC r1;have hgl:=aC (h.regs 0 (by omega))
 obtain⟨N,hN⟩:=Int.eq_ofNat_of_zero_le (show 0≤ents*4 by omega)
 have hNn:(ents*4).toNat=N:=by omega
 have hreg:=h.regs;have hrr:=h.rroom;rw[hNn]at r1 r2 hreg hrr;have hEN:E*4+4≤N:=by omega
 obtain⟨F,hF⟩:∃ F,F=E*4:=⟨_,rfl⟩;have w1:IntKind.i64.wrap ((E:Int)*4)=(F:Int):=by rw[IntKind.wrap_i64];omega
 have w2:IntKind.i64.wrap ((F:Int)+4)=(F:Int)+4:=by rw[IntKind.wrap_i64];omega
 have b1:(0:Int)≤(F:Int):=by omega
 have b2:(F:Int)≤(F:Int)+4:=by omega
 have b3:(F:Int)+4≤(cap:Int):=by omega
 have b4:¬cap=F:=by omega
 have b5:F+4≤cap:=by omega
 have b6:F≤F+4:=by omega
 have t4:((F:Int)+4).toNat=F+4:=by omega
 have t5:F+4-F=4:=by omega
 obtain⟨W1,hW1⟩:∃ W1,W1=(w.alloc (.cells #[.int .i64 2,.int .i64 (a:Int),.int .i64 (b:Int),.int .i64 0] 59)).alloc (.cells #[.int .i64 et,.int .i64 en,.int .i64 ek,.int .i64 (E:Int)] 143):=⟨_,rfl⟩;have hb1:Below w.heap.size w W1:=by rw[hW1];exact((Below.refl _ _).alloc (Nat.le_refl _) _).alloc (by simp) _
 have hzW1:W1.heap.size=w.heap.size+2:=by rw[hW1];simp
 have z1:=aA hb1 r1 hcl;have x3:W1.cell? ⟨w.heap.size+1,3,none⟩=some (.int .i64 (E:Int)):=by rw[hW1];simp[go_sem]
 have y0:W1.cell? ⟨w.heap.size,0,none⟩=some (.int .i64 2):=by rw[hW1];simp[go_sem]
 have y1:W1.cell? ⟨w.heap.size,1,none⟩=some (.int .i64 (a:Int)):=by rw[hW1];simp[go_sem]
 have y2:W1.cell? ⟨w.heap.size,2,none⟩=some (.int .i64 (b:Int)):=by rw[hW1];simp[go_sem]
 have y3:W1.cell? ⟨w.heap.size,3,none⟩=some (.int .i64 0):=by rw[hW1];simp[go_sem]
 have hreg1:∀ i,i<4→W1.cell? ⟨gb,F+i,none⟩=some (.int .i64 (s.regs (E*4+i))):=fun i hi=>by rw[hF];exact aA hb1 (hreg (E*4+i) (by omega)) hgl
 have hfro1:∀ i,i<4→W1.frozen? ⟨gb,F+i,none⟩=false:=fun i hi=>by rw[hF];exact(hb1.frozen (p:=⟨gb,E*4+i,none⟩) hgl).trans (hrr (E*4+i) (by omega)).2
 have Hreg1:=aB hreg1;have Hfro1:=aB hfro1;have HB1:=aB hb1;have HF:=aB hF;have H1:=aB (H.out.only (Only.new (S:=fun _=>False) hb1) (by simp) (by simp) (by simp))
 have HNn:=aB hNn;have b7:(0:Int)≤(a:Int):=by omega
 have b8:(a:Int)<4:=by omega
 have c7:(0:Int)≤(b:Int):=by omega
 have c8:(b:Int)<4:=by omega
 clear h hb1 hF hreg hrr hreg1 hfro1 hN hNn
 go_enter Tryz.func117,Tryz.ntmps117
 go_wp2_with fail
 rw[←hW1];clear hW1
 go_quiet (fail)
 obtain⟨W2,hW2⟩:∃ W2,W2=W1.drewN nq:=⟨_,rfl⟩;rw[←hW2];have hb2:Below W1.heap.size W1 W2:=by rw[hW2];exact below_drewN (Below.refl _ _) _
 have hz2:=hb2.size
 replace y0:=aA hb2 y0 (by omega)
 replace y1:=aA hb2 y1 (by omega)
 replace y2:=aA hb2 y2 (by omega)
 replace y3:=aA hb2 y3 (by omega)
 have Hreg2:Hid (∀ i,i<4→W2.cell? ⟨gb,F+i,none⟩=some (.int .i64 (s.regs (E*4+i)))):=fun i hi=>aA hb2 (Hreg1.out i hi) (by omega)
 have Hfro2:Hid (∀ i,i<4→W2.frozen? ⟨gb,F+i,none⟩=false):=fun i hi=>(hb2.frozen (p:=⟨gb,F+i,none⟩) (by show gb<_;omega)).trans (Hfro1.out i hi)
 have H2:=aB (H1.out.only (Only.new (S:=fun _=>False) hb2) (by simp) (by simp) (by simp))
 have HB2:Hid (Below w.heap.size w W2):=HB1.out.trans (hb2.mono (by omega))
 clear hW2 hb2 x3 z1;have HS:Hid (RefC R (W2.setCell ⟨gb,F+a,none⟩ (.int .i64 (fQ (s.regs (E*4+a)+s.regs (E*4+b))))) cb gb ents ks draws {s with regs:=cD s.regs (E*4+a) (fQ (s.regs (E*4+a)+s.regs (E*4+b)))}):=by rw[HF.out];exact H2.out.setReg (by have:=HNn.out;omega) _
 have HO:Hid (Only (fun b=>b=cb∨b=gb) w (W2.setCell ⟨gb,F+a,none⟩ (.int .i64 (fQ (s.regs (E*4+a)+s.regs (E*4+b)))))):=(Only.new HB2.out).setCell (p:=⟨gb,F+a,none⟩) (.inr rfl) _;have ca:=Hreg2.out a ha;have fa:=Hfro2.out a ha;have cb2:=Hreg2.out b hb;have hka:=hok (E*4+a);have hkb:=hok (E*4+b);have Hcut:=aB (zD (s.regs (E*4+a)+s.regs (E*4+b)));obtain⟨va,hva⟩:∃ va,va=s.regs (E*4+a):=⟨_,rfl⟩;obtain⟨vb,hvb⟩:∃ vb,vb=s.regs (E*4+b):=⟨_,rfl⟩;have HQ:Hid (∀ W',W'=(W2.setCell ⟨gb,F+a,none⟩ (.int .i64 (fQ (va+vb)))).drew→eF R cb gb ents ks draws w ({s with regs:=cD s.regs (E*4+a) (fQ (s.regs (E*4+a)+s.regs (E*4+b)))},[],0) (.returned (.tuple #[.slice none 0 0,.int .i64 0])) W'):=by
  rintro W' rfl;rw[hva,hvb];exact gG hcl hgl (HO.out.trans (Only.new (Below.refl _ _).drew)) (HS.out.only (Only.new (S:=fun _=>False) (Below.refl _ _).drew) (by simp) (by simp) (by simp))
 rw[←hva]at ca hka Hcut;rw[←hvb]at cb2 hkb Hcut;clear hva hvb;clear HS HO hok H2 HB2 Hreg2 Hfro2 HNn HB1 H1 Hreg1 Hfro1 H hz2 hzW1 w1 w2 b1 b2 b3 b4 b5 b6 t4 t5 r1 r2 r3 hcl hgl he hE hEN;have wv:IntKind.i64.wrap (va+vb)=va+vb:=by rw[IntKind.wrap_i64];omega
 clear hka hkb;have cad:W2.drew.cell? ⟨gb,F+a,none⟩=some (.int .i64 va):=ca;have cbd:W2.drew.cell? ⟨gb,F+b,none⟩=some (.int .i64 vb):=cb2;have fad:W2.drew.frozen? ⟨gb,F+a,none⟩=false:=fa
 go_wp2_with fail
 go_region_law (first|(go_simp;go_at_call 129;refine(Hcut.out _).mono ?_;rintro e' w3 ⟨rfl,rfl⟩))
 all_goals
  go_wp2_with fail
  go_ret2;exact HQ.out _ rfl
end Go.Proofs.YtndlmgocldckfaaGreat
