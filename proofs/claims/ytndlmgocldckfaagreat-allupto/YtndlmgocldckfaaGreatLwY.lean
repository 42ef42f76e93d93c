import Derived.Test.YtndlmgocldckfaaGreatG20
namespace Go.Proofs.YtndlmgocldckfaaGreat
open Go.RowKit
set_option linter.unusedVariables false
set_option linter.unusedSimpArgs false
set_option maxRecDepth 100000
set_option maxHeartbeats 4000000
theorem aCf{base:Nat}(wb:Nat)(lv:Value)(ps:List Pair)(bk:BookD)(o:OpD)(w:World)(h:Inv base w wb lv ps bk)(ho:OpOK base w o)(hk:o.kind=9)(hps:0<ps.length)(hlen:(ps.length+1)*16≤140737488355328)(G:BookD→Prop)
  (hA:∀ (W':World) (p:Pair),Inv base W' wb lv ps bk→ps[gH o.a ps.length]?=some p→Calls Tryz.prog 17 #[.pointer (some ⟨wb,0,none⟩),.agg #[.pointer (some ⟨p.kb,0,none⟩),.pointer (some ⟨p.rb,0,none⟩)],.agg #[.int .i64 o.kind,.int .i64 o.a,.int .i64 o.b,.int .i64 o.c,.int .i64 o.d,.int .i64 o.ents,o.kv,o.l,o.rv,o.qv,o.sv]] W'
   fun e w'=>e=.returned (.bool true)∧Below base W' w'∧Only (fun b=>b=wb∨bk.bs b∨some b=lv.ownBlock) W' w'∧∃ lv' ps' bk',ps'.length≤ps.length+1∧Inv base w' wb lv' ps' bk'∧G bk') :
  Calls Tryz.prog 11 #[.pointer (some ⟨wb,0,none⟩),.agg #[.int .i64 o.kind,.int .i64 o.a,.int .i64 o.b,.int .i64 o.c,.int .i64 o.d,.int .i64 o.ents,o.kv,o.l,o.rv,o.qv,o.sv]] w
   fun e w'=>e=.returned (.bool true)∧Below base w w'∧∃ lv' ps' bk',ps'.length≤ps.length+1∧Inv base w' wb lv' ps' bk'∧G bk':=by
 have hbl:base≤w.heap.size:=Nat.le_trans h.blo (Nat.le_of_lt h.wlt);obtain⟨W,hW⟩:∃ W,W=w.alloc (.cells #[.int .i64 o.kind,.int .i64 o.a,.int .i64 o.b,.int .i64 o.c,.int .i64 o.d,.int .i64 o.ents,o.kv,o.l,o.rv,o.qv,o.sv] 41):=⟨_,rfl⟩;have hb:Below w.heap.size w W:=by rw[hW];exact(Below.refl _ _).alloc (Nat.le_refl _) _
 have hWs:W.heap.size=w.heap.size+1:=by rw[hW];simp
 have hI:=h.below hb;have c0:W.cell? ⟨w.heap.size,0,none⟩=some (.int .i64 o.kind):=by rw[hW];simp[go_sem]
 have c1:W.cell? ⟨w.heap.size,1,none⟩=some (.int .i64 o.a):=by rw[hW];simp[go_sem]
 have c2:W.cell? ⟨w.heap.size,2,none⟩=some (.int .i64 o.b):=by rw[hW];simp[go_sem]
 have c3:W.cell? ⟨w.heap.size,3,none⟩=some (.int .i64 o.c):=by rw[hW];simp[go_sem]
 have c4:W.cell? ⟨w.heap.size,4,none⟩=some (.int .i64 o.d):=by rw[hW];simp[go_sem]
 have c5:W.cell? ⟨w.heap.size,5,none⟩=some (.int .i64 o.ents):=by rw[hW];simp[go_sem]
 have c6:W.cell? ⟨w.heap.size,6,none⟩=some o.kv:=by rw[hW];simp[go_sem]
 have c7:W.cell? ⟨w.heap.size,7,none⟩=some o.l:=by rw[hW];simp[go_sem]
 have c8:W.cell? ⟨w.heap.size,8,none⟩=some o.rv:=by rw[hW];simp[go_sem]
 have c9:W.cell? ⟨w.heap.size,9,none⟩=some o.qv:=by rw[hW];simp[go_sem]
 have c10:W.cell? ⟨w.heap.size,10,none⟩=some o.sv:=by rw[hW];simp[go_sem]
 have hcell:=hI.cell;have hcw:=h.cell;have hwl:=h.wlt;have howns:=hI.owns;have hpk:=zJ o.a ps.length hps;obtain⟨p,hp⟩:∃ p,ps[gH o.a ps.length]?=some p:=⟨ps[gH o.a ps.length],by simp[hpk]⟩
 obtain⟨r0,r1⟩:=kV ps _ p hp;obtain⟨hnil,hn0,_⟩|⟨g,cap,rfl,hgb,hglt,hrow⟩:=bK howns
 ·omega
 have y0:=hrow _ _ r0;have y1:=hrow _ _ r1;simp only[Nat.zero_add]at y0 y1;have hbm:¬(w.heap.size=wb∨bk.bs w.heap.size∨some w.heap.size=(Value.slice (some ⟨g,0,none⟩) ps.length cap).ownBlock):=by
  rintro (hm|hm|hm)
  ·omega
  ·have:=(h.bks _ hm).2.1;omega
  ·have:=(h.owns.lt _ hm.symm).2;omega
 have HA:Hid (∀ W',W'.heap=W.heap→W'.os=W.os→W'.tape=W.tape→W'.output=W.output→Calls Tryz.prog 17 #[.pointer (some ⟨wb,0,none⟩),.agg #[.pointer (some ⟨p.kb,0,none⟩),.pointer (some ⟨p.rb,0,none⟩)],.agg #[.int .i64 o.kind,.int .i64 o.a,.int .i64 o.b,.int .i64 o.c,.int .i64 o.d,.int .i64 o.ents,o.kv,o.l,o.rv,o.qv,o.sv]] W'
   fun e w'=>e=.returned (.bool true)∧Hid (Below base W w'∧∃ lv' ps' bk',ps'.length≤ps.length+1∧Inv base w' wb lv' ps' bk'∧G bk')∧Hid (Only (fun b=>b=wb∨bk.bs b∨some b=(Value.slice (some ⟨g,0,none⟩) ps.length cap).ownBlock) W w')):=by
  intro W' h1 h2 h3 h4;have hbW:Below W.heap.size W W':=⟨h2,h3,h4,by rw[h1];exact Nat.le_refl _,fun k _=>by rw[h1]⟩
  refine(hA W' p (hI.below hbW) hp).mono ?_;rintro e w' ⟨rfl,ho,hO,hx⟩;exact⟨rfl,⟨(hbW.mono (by omega)).trans ho,hx⟩,(Only.new hbW).trans hO⟩
 have k1:(o.kind==1)=false:=by simp[hk]
 have k2:(o.kind==2)=false:=by simp[hk]
 have k8:(o.kind==8)=false:=by simp[hk]
 have k10:decide (10≤o.kind)=false:=by simp[hk]
 have k3:decide (o.kind<3)=false:=by simp[hk]
 have k9:decide (9<o.kind)=false:=by simp[hk]
 have kl:((ps.length:Int)==0)=false:=by simp;intro e;simp[e]at hps
 have halo:=ho.alo;have hahi:=ho.ahi;have hpl:ps.length≤8796093022208:=by omega
 have Hpk:=aB hpk;have hpk':(gH o.a ps.length:Int)<(ps.length:Int):=by omega
 have hpk0:(0:Int)≤(gH o.a ps.length:Int):=by omega
 obtain⟨x,hx⟩:∃ x,x=gH o.a ps.length:=⟨_,rfl⟩;have HX:=aB hx;rw[←hx]at y0 y1 hpk' hpk0 r0 r1 hpk;have HPick:Hid (∀ W',Calls Tryz.prog 18 #[.int .i64 o.a,.int .i64 ps.length] W' fun e w'=>e=.returned (.int .i64 x)∧w'=W'):=by
  intro W';have:=zK o.a ps.length W' hps (by omega) halo hahi
  rw[←hx]at this;exact this
 clear hx hk howns hrow r0 r1 hp h ho hI hlen halo hahi Hpk hA;have HW:=aB hW;clear hW
 go_enter Tryz.func11,Tryz.ntmps11
 go_wp2_with fail
 rw[←HW.out];refine wp_region_noPanic ?_;refine wp_region_held_drew (S:=(fun W'=>W'.cell? ⟨w.heap.size,0,none⟩=some (.int .i64 o.kind)∧W'.cell? ⟨w.heap.size,1,none⟩=some (.int .i64 o.a)∧W'.cell? ⟨w.heap.size,2,none⟩=some (.int .i64 o.b)∧W'.cell? ⟨w.heap.size,3,none⟩=some (.int .i64 o.c)∧W'.cell? ⟨w.heap.size,4,none⟩=some (.int .i64 o.d)∧W'.cell? ⟨w.heap.size,5,none⟩=some (.int .i64 o.ents)∧W'.cell? ⟨w.heap.size,6,none⟩=some o.kv∧W'.cell? ⟨w.heap.size,7,none⟩=some o.l∧W'.cell? ⟨w.heap.size,8,none⟩=some o.rv∧W'.cell? ⟨w.heap.size,9,none⟩=some o.qv∧W'.cell? ⟨w.heap.size,10,none⟩=some o.sv)) (by kernel_rfl) ?_ (fun hHeld=>?_)
 ·(try dsimp only);go_keep
 refine wpAnyH_take (i:=0) (v:=?_) rfl (by kernel_rfl) (by kernel_rfl) (by kernel_rfl) (fun _ _ _ h=>h) (Or.inl ⟨by rfl,?_⟩) (by assumption) ?_
 rotate_left
 ·(intro w hSw;(try dsimp only at hSw);go_simp<;>with_reducible rfl)
 try simp only[Act.put,List.getElem_toArray,List.getElem_cons_succ,List.getElem_cons_zero,List.setIfInBounds_toArray,List.set_cons_zero,List.set_cons_succ]
 refine wpAnyH_take (i:=1) (v:=?_) rfl (by kernel_rfl) (by kernel_rfl) (by kernel_rfl) (fun _ _ _ h=>h) (Or.inl ⟨by rfl,?_⟩) (by assumption) ?_
 rotate_left
 ·(intro w hSw;(try dsimp only at hSw);go_simp<;>with_reducible rfl)
 try simp only[Act.put,List.getElem_toArray,List.getElem_cons_succ,List.getElem_cons_zero,List.setIfInBounds_toArray,List.set_cons_zero,List.set_cons_succ]
 refine wpAnyH_take (i:=2) (v:=?_) rfl (by kernel_rfl) (by kernel_rfl) (by kernel_rfl) (fun _ _ _ h=>h) (Or.inl ⟨by rfl,?_⟩) (by assumption) ?_
 rotate_left
 ·(intro w hSw;(try dsimp only at hSw);go_simp<;>with_reducible rfl)
 try simp only[Act.put,List.getElem_toArray,List.getElem_cons_succ,List.getElem_cons_zero,List.setIfInBounds_toArray,List.set_cons_zero,List.set_cons_succ]
 refine wpAnyH_take (i:=3) (v:=?_) rfl (by kernel_rfl) (by kernel_rfl) (by kernel_rfl) (fun _ _ _ h=>h) (Or.inl ⟨by rfl,?_⟩) (by assumption) ?_
 rotate_left
 ·(intro w hSw;(try dsimp only at hSw);go_simp<;>with_reducible rfl)
 try simp only[Act.put,List.getElem_toArray,List.getElem_cons_succ,List.getElem_cons_zero,List.setIfInBounds_toArray,List.set_cons_zero,List.set_cons_succ]
 refine wpAnyH_take (i:=5) (v:=?_) rfl (by kernel_rfl) (by kernel_rfl) (by kernel_rfl) (fun _ _ _ h=>h) (Or.inl ⟨by rfl,?_⟩) (by assumption) ?_
 rotate_left
 ·(intro w hSw;(try dsimp only at hSw);go_simp<;>with_reducible rfl)
 try simp only[Act.put,List.getElem_toArray,List.getElem_cons_succ,List.getElem_cons_zero,List.setIfInBounds_toArray,List.set_cons_zero,List.set_cons_succ]
 refine wpAnyH_take (i:=6) (v:=?_) rfl (by kernel_rfl) (by kernel_rfl) (by kernel_rfl) (fun _ _ _ h=>h) (Or.inl ⟨by rfl,?_⟩) (by assumption) ?_
 rotate_left
 ·(intro w hSw;(try dsimp only at hSw);go_simp<;>with_reducible rfl)
 try simp only[Act.put,List.getElem_toArray,List.getElem_cons_succ,List.getElem_cons_zero,List.setIfInBounds_toArray,List.set_cons_zero,List.set_cons_succ]
 refine wpAnyH_take (i:=7) (v:=?_) rfl (by kernel_rfl) (by kernel_rfl) (by kernel_rfl) (fun _ _ _ h=>h) (Or.inl ⟨by rfl,?_⟩) (by assumption) ?_
 rotate_left
 ·(intro w hSw;(try dsimp only at hSw);go_simp<;>with_reducible rfl)
 try simp only[Act.put,List.getElem_toArray,List.getElem_cons_succ,List.getElem_cons_zero,List.setIfInBounds_toArray,List.set_cons_zero,List.set_cons_succ]
 refine wpAnyH_take (i:=8) (v:=?_) rfl (by kernel_rfl) (by kernel_rfl) (by kernel_rfl) (fun _ _ _ h=>h) (Or.inl ⟨by rfl,?_⟩) (by assumption) ?_
 rotate_left
 ·(intro w hSw;(try dsimp only at hSw);go_simp<;>with_reducible rfl)
 try simp only[Act.put,List.getElem_toArray,List.getElem_cons_succ,List.getElem_cons_zero,List.setIfInBounds_toArray,List.set_cons_zero,List.set_cons_succ]
 refine wpAnyH_take (i:=9) (v:=?_) rfl (by kernel_rfl) (by kernel_rfl) (by kernel_rfl) (fun _ _ _ h=>h) (Or.inl ⟨by rfl,?_⟩) (by assumption) ?_
 rotate_left
 ·(intro w hSw;(try dsimp only at hSw);go_simp<;>with_reducible rfl)
 try simp only[Act.put,List.getElem_toArray,List.getElem_cons_succ,List.getElem_cons_zero,List.setIfInBounds_toArray,List.set_cons_zero,List.set_cons_succ]
 refine wpAnyH_take (i:=15) (v:=?_) rfl (by kernel_rfl) (by kernel_rfl) (by kernel_rfl) (fun _ _ _ h=>h) (Or.inl ⟨by rfl,?_⟩) (by assumption) ?_
 rotate_left
 ·(intro w hSw;(try dsimp only at hSw);go_simp<;>with_reducible rfl)
 try simp only[Act.put,List.getElem_toArray,List.getElem_cons_succ,List.getElem_cons_zero,List.setIfInBounds_toArray,List.set_cons_zero,List.set_cons_succ]
 refine wpAnyH_ready (rs:=[4,10]) (by kernel_rfl) (by simp) ?_
 refine AllReadyH.cons rfl (fun K hK=>?_) ?_
 ·go_simp
  refine hK.out _ _ ?_ (fun hHeld=>?_)
  ·(try dsimp only);go_keep
  clear hK K
  try simp only[Act.put,List.getElem_toArray,List.getElem_cons_succ,List.getElem_cons_zero,List.setIfInBounds_toArray,List.set_cons_zero,List.set_cons_succ]
  refine wpAnyH_ready (rs:=[10]) (by kernel_rfl) (by simp) ?_
  refine AllReadyH.cons rfl (fun K hK=>?_) ?_
  ·go_simp
   refine hK.out _ _ ?_ (fun hHeld=>?_)
   ·(try dsimp only);go_keep
   clear hK K
   try simp only[Act.put,List.getElem_toArray,List.getElem_cons_succ,List.getElem_cons_zero,List.setIfInBounds_toArray,List.set_cons_zero,List.set_cons_succ]
   refine wpAnyH_take (i:=11) (v:=?_) rfl (by kernel_rfl) (by kernel_rfl) (by kernel_rfl) (fun _ _ _ h=>h) (Or.inl ⟨by rfl,?_⟩) (by assumption) ?_
   rotate_left
   ·(intro w hSw;(try dsimp only at hSw);go_simp<;>with_reducible rfl)
   try simp only[Act.put,List.getElem_toArray,List.getElem_cons_succ,List.getElem_cons_zero,List.setIfInBounds_toArray,List.set_cons_zero,List.set_cons_succ]
   refine wpAnyH_ready (rs:=[12]) (by kernel_rfl) (by simp) ?_
   refine AllReadyH.cons rfl (fun K hK=>?_) ?_
   ·go_simp
    go_at_call 18;refine(HPick.out _).mono ?_;rintro e w1 ⟨rfl,rfl⟩
    try go_wp2_with fail
    refine hK.out _ _ ?_ (fun hHeld=>?_)
    ·(try dsimp only);go_keep
    clear hK K
    try simp only[Act.put,List.getElem_toArray,List.getElem_cons_succ,List.getElem_cons_zero,List.setIfInBounds_toArray,List.set_cons_zero,List.set_cons_succ]
    refine wpAnyH_take (i:=13) (v:=?_) rfl (by kernel_rfl) (by kernel_rfl) (by kernel_rfl) (fun _ _ _ h=>h) (Or.inl ⟨by rfl,?_⟩) (by assumption) ?_
    rotate_left
    ·(intro w hSw;(try dsimp only at hSw);go_simp<;>with_reducible rfl)
    try simp only[Act.put,List.getElem_toArray,List.getElem_cons_succ,List.getElem_cons_zero,List.setIfInBounds_toArray,List.set_cons_zero,List.set_cons_succ]
    refine wpAnyH_ready (rs:=[14]) (by kernel_rfl) (by simp) ?_
    refine AllReadyH.cons rfl (fun K hK=>?_) ?_
    ·go_simp
     refine hK.out _ _ ?_ (fun hHeld=>?_)
     ·(try dsimp only);go_keep
     clear hK K
     try simp only[Act.put,List.getElem_toArray,List.getElem_cons_succ,List.getElem_cons_zero,List.setIfInBounds_toArray,List.set_cons_zero,List.set_cons_succ]
     refine wpAnyH_ready (rs:=[16]) (by kernel_rfl) (by simp) ?_
     refine AllReadyH.cons rfl (fun K hK=>?_) ?_
     ·go_simp
      go_at_call 17;refine(HA.out _ (by rfl) (by rfl) (by rfl) (by rfl)).mono ?_;rintro e w2 ⟨rfl,hI2,ho2⟩
      try go_wp2_with fail
      refine hK.out _ _ ?_ (fun hHeld=>?_)
      ·exact⟨ho2.out.at c0 hbm,ho2.out.at c1 hbm,ho2.out.at c2 hbm,ho2.out.at c3 hbm,ho2.out.at c4 hbm,ho2.out.at c5 hbm,ho2.out.at c6 hbm,ho2.out.at c7 hbm,ho2.out.at c8 hbm,ho2.out.at c9 hbm,ho2.out.at c10 hbm⟩
      clear hK K
      try simp only[Act.put,List.getElem_toArray,List.getElem_cons_succ,List.getElem_cons_zero,List.setIfInBounds_toArray,List.set_cons_zero,List.set_cons_succ]
      refine wpAnyH_take (i:=17) (v:=?_) rfl (by kernel_rfl) (by kernel_rfl) (by kernel_rfl) (fun _ _ _ h=>h) (Or.inl ⟨by rfl,?_⟩) (by assumption) ?_
      rotate_left
      ·(intro w hSw;(try dsimp only at hSw);go_simp<;>with_reducible rfl)
      try simp only[Act.put,List.getElem_toArray,List.getElem_cons_succ,List.getElem_cons_zero,List.setIfInBounds_toArray,List.set_cons_zero,List.set_cons_succ]
      refine wpAnyH_done (by kernel_rfl) ?_ _
      refine NoPanic.normal ?_
      go_wp2
      go_ret;exact⟨by simp,(hb.mono hbl).trans hI2.out.1,hI2.out.2⟩
     exact AllReadyH.nil
    exact AllReadyH.nil
   exact AllReadyH.nil
  exact AllReadyH.nil
 refine AllReadyH.cons rfl (fun K hK=>?_) ?_
 ·go_simp
  refine hK.out _ _ ?_ (fun hHeld=>?_)
  ·(try dsimp only);go_keep
  clear hK K
  try simp only[Act.put,List.getElem_toArray,List.getElem_cons_succ,List.getElem_cons_zero,List.setIfInBounds_toArray,List.set_cons_zero,List.set_cons_succ]
  refine wpAnyH_take (i:=11) (v:=?_) rfl (by kernel_rfl) (by kernel_rfl) (by kernel_rfl) (fun _ _ _ h=>h) (Or.inl ⟨by rfl,?_⟩) (by assumption) ?_
  rotate_left
  ·(intro w hSw;(try dsimp only at hSw);go_simp<;>with_reducible rfl)
  try simp only[Act.put,List.getElem_toArray,List.getElem_cons_succ,List.getElem_cons_zero,List.setIfInBounds_toArray,List.set_cons_zero,List.set_cons_succ]
  refine wpAnyH_ready (rs:=[4,12]) (by kernel_rfl) (by simp) ?_
  refine AllReadyH.cons rfl (fun K hK=>?_) ?_
  ·go_simp
   refine hK.out _ _ ?_ (fun hHeld=>?_)
   ·(try dsimp only);go_keep
   clear hK K
   try simp only[Act.put,List.getElem_toArray,List.getElem_cons_succ,List.getElem_cons_zero,List.setIfInBounds_toArray,List.set_cons_zero,List.set_cons_succ]
   refine wpAnyH_ready (rs:=[12]) (by kernel_rfl) (by simp) ?_
   refine AllReadyH.cons rfl (fun K hK=>?_) ?_
   ·go_simp
    go_at_call 18;refine(HPick.out _).mono ?_;rintro e w1 ⟨rfl,rfl⟩
    try go_wp2_with fail
    refine hK.out _ _ ?_ (fun hHeld=>?_)
    ·(try dsimp only);go_keep
    clear hK K
    try simp only[Act.put,List.getElem_toArray,List.getElem_cons_succ,List.getElem_cons_zero,List.setIfInBounds_toArray,List.set_cons_zero,List.set_cons_succ]
    refine wpAnyH_take (i:=13) (v:=?_) rfl (by kernel_rfl) (by kernel_rfl) (by kernel_rfl) (fun _ _ _ h=>h) (Or.inl ⟨by rfl,?_⟩) (by assumption) ?_
    rotate_left
    ·(intro w hSw;(try dsimp only at hSw);go_simp<;>with_reducible rfl)
    try simp only[Act.put,List.getElem_toArray,List.getElem_cons_succ,List.getElem_cons_zero,List.setIfInBounds_toArray,List.set_cons_zero,List.set_cons_succ]
    refine wpAnyH_ready (rs:=[14]) (by kernel_rfl) (by simp) ?_
    refine AllReadyH.cons rfl (fun K hK=>?_) ?_
    ·go_simp
     refine hK.out _ _ ?_ (fun hHeld=>?_)
     ·(try dsimp only);go_keep
     clear hK K
     try simp only[Act.put,List.getElem_toArray,List.getElem_cons_succ,List.getElem_cons_zero,List.setIfInBounds_toArray,List.set_cons_zero,List.set_cons_succ]
     refine wpAnyH_ready (rs:=[16]) (by kernel_rfl) (by simp) ?_
     refine AllReadyH.cons rfl (fun K hK=>?_) ?_
     ·go_simp
      go_at_call 17;refine(HA.out _ (by rfl) (by rfl) (by rfl) (by rfl)).mono ?_;rintro e w2 ⟨rfl,hI2,ho2⟩
      try go_wp2_with fail
      refine hK.out _ _ ?_ (fun hHeld=>?_)
      ·exact⟨ho2.out.at c0 hbm,ho2.out.at c1 hbm,ho2.out.at c2 hbm,ho2.out.at c3 hbm,ho2.out.at c4 hbm,ho2.out.at c5 hbm,ho2.out.at c6 hbm,ho2.out.at c7 hbm,ho2.out.at c8 hbm,ho2.out.at c9 hbm,ho2.out.at c10 hbm⟩
      clear hK K
      try simp only[Act.put,List.getElem_toArray,List.getElem_cons_succ,List.getElem_cons_zero,List.setIfInBounds_toArray,List.set_cons_zero,List.set_cons_succ]
      refine wpAnyH_take (i:=17) (v:=?_) rfl (by kernel_rfl) (by kernel_rfl) (by kernel_rfl) (fun _ _ _ h=>h) (Or.inl ⟨by rfl,?_⟩) (by assumption) ?_
      rotate_left
      ·(intro w hSw;(try dsimp only at hSw);go_simp<;>with_reducible rfl)
      try simp only[Act.put,List.getElem_toArray,List.getElem_cons_succ,List.getElem_cons_zero,List.setIfInBounds_toArray,List.set_cons_zero,List.set_cons_succ]
      refine wpAnyH_done (by kernel_rfl) ?_ _
      refine NoPanic.normal ?_
      go_wp2
      go_ret;exact⟨by simp,(hb.mono hbl).trans hI2.out.1,hI2.out.2⟩
     exact AllReadyH.nil
    exact AllReadyH.nil
   exact AllReadyH.nil
  refine AllReadyH.cons rfl (fun K hK=>?_) ?_
  ·go_simp
   go_at_call 18;refine(HPick.out _).mono ?_;rintro e w1 ⟨rfl,rfl⟩
   try go_wp2_with fail
   refine hK.out _ _ ?_ (fun hHeld=>?_)
   ·(try dsimp only);go_keep
   clear hK K
   try simp only[Act.put,List.getElem_toArray,List.getElem_cons_succ,List.getElem_cons_zero,List.setIfInBounds_toArray,List.set_cons_zero,List.set_cons_succ]
   refine wpAnyH_ready (rs:=[4]) (by kernel_rfl) (by simp) ?_
   refine AllReadyH.cons rfl (fun K hK=>?_) ?_
   ·go_simp
    refine hK.out _ _ ?_ (fun hHeld=>?_)
    ·(try dsimp only);go_keep
    clear hK K
    try simp only[Act.put,List.getElem_toArray,List.getElem_cons_succ,List.getElem_cons_zero,List.setIfInBounds_toArray,List.set_cons_zero,List.set_cons_succ]
    refine wpAnyH_take (i:=13) (v:=?_) rfl (by kernel_rfl) (by kernel_rfl) (by kernel_rfl) (fun _ _ _ h=>h) (Or.inl ⟨by rfl,?_⟩) (by assumption) ?_
    rotate_left
    ·(intro w hSw;(try dsimp only at hSw);go_simp<;>with_reducible rfl)
    try simp only[Act.put,List.getElem_toArray,List.getElem_cons_succ,List.getElem_cons_zero,List.setIfInBounds_toArray,List.set_cons_zero,List.set_cons_succ]
    refine wpAnyH_ready (rs:=[14]) (by kernel_rfl) (by simp) ?_
    refine AllReadyH.cons rfl (fun K hK=>?_) ?_
    ·go_simp
     refine hK.out _ _ ?_ (fun hHeld=>?_)
     ·(try dsimp only);go_keep
     clear hK K
     try simp only[Act.put,List.getElem_toArray,List.getElem_cons_succ,List.getElem_cons_zero,List.setIfInBounds_toArray,List.set_cons_zero,List.set_cons_succ]
     refine wpAnyH_ready (rs:=[16]) (by kernel_rfl) (by simp) ?_
     refine AllReadyH.cons rfl (fun K hK=>?_) ?_
     ·go_simp
      go_at_call 17;refine(HA.out _ (by rfl) (by rfl) (by rfl) (by rfl)).mono ?_;rintro e w2 ⟨rfl,hI2,ho2⟩
      try go_wp2_with fail
      refine hK.out _ _ ?_ (fun hHeld=>?_)
      ·exact⟨ho2.out.at c0 hbm,ho2.out.at c1 hbm,ho2.out.at c2 hbm,ho2.out.at c3 hbm,ho2.out.at c4 hbm,ho2.out.at c5 hbm,ho2.out.at c6 hbm,ho2.out.at c7 hbm,ho2.out.at c8 hbm,ho2.out.at c9 hbm,ho2.out.at c10 hbm⟩
      clear hK K
      try simp only[Act.put,List.getElem_toArray,List.getElem_cons_succ,List.getElem_cons_zero,List.setIfInBounds_toArray,List.set_cons_zero,List.set_cons_succ]
      refine wpAnyH_take (i:=17) (v:=?_) rfl (by kernel_rfl) (by kernel_rfl) (by kernel_rfl) (fun _ _ _ h=>h) (Or.inl ⟨by rfl,?_⟩) (by assumption) ?_
      rotate_left
      ·(intro w hSw;(try dsimp only at hSw);go_simp<;>with_reducible rfl)
      try simp only[Act.put,List.getElem_toArray,List.getElem_cons_succ,List.getElem_cons_zero,List.setIfInBounds_toArray,List.set_cons_zero,List.set_cons_succ]
      refine wpAnyH_done (by kernel_rfl) ?_ _
      refine NoPanic.normal ?_
      go_wp2
      go_ret;exact⟨by simp,(hb.mono hbl).trans hI2.out.1,hI2.out.2⟩
     exact AllReadyH.nil
    exact AllReadyH.nil
   exact AllReadyH.nil
  exact AllReadyH.nil
 exact AllReadyH.nil
end Go.Proofs.YtndlmgocldckfaaGreat
