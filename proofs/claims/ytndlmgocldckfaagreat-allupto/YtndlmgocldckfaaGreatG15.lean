import Derived.Test.YtndlmgocldckfaaGreatG14
namespace Go.Proofs.YtndlmgocldckfaaGreat
open Go.RowKit
set_option linter.unusedVariables false
set_option linter.unusedSimpArgs false
set_option maxRecDepth 100000
set_option maxHeartbeats 4000000
theorem aAh{R:Nat→Prop}(rb:Nat)(ents:Int)(ks:List (List Ins))(draws:List Int)(taken clock next:Int)(regs:List Int)(q:List Ev)(time kind ent:Int)(w:World)(h:RefK R w rb ents ks draws taken clock next regs q)
  (hR:∀ b,R b→b<w.heap.size∧b≠rb) (hq16:q.length<16) (hv7:w.cell? ⟨rb,7,none⟩≠some (.slice none 0 0)) (hn0:0≤next) (hn1:next<1000000000) :
  Calls Tryz.prog 88 #[.pointer (some ⟨rb,0,none⟩),.int .i64 time,.int .i64 kind,.int .i64 ent] w fun e w'=>e=.returned (.int .i64 next)∧Only (·=rb) w w' ∧
   RefK (fun b=>R b∨(w.heap.size≤b∧b<w'.heap.size)) w' rb ents ks draws taken clock (next+1) regs (dR ⟨time,next,kind,ent⟩ q)∧mE w w' rb next (dR ⟨time,next,kind,ent⟩ q):=by
 have hP:=aB h;obtain⟨⟨kv,dv,rv,qv,h0,h1,h2,h3,h4,h5,h6,h7,hk,hd,hr,hq⟩,hroom⟩:=h;obtain⟨qa,qc,rfl⟩:=hq.form;have hbk:=aC h0;have Hk:=aB hk;have Hd:=aB hd;have Hr:=aB hr;clear h0 h1 h2 h3 h4 h6 hk hd hr;obtain⟨e,he⟩:∃ e:Ev,e=⟨time,next,kind,ent⟩:=⟨_,rfl⟩
 have HE:=aB he;clear he
 go_enter Tryz.func88,Tryz.ntmps88
 go_wp2
 go_loopw [10] (fun i wr=>∃ k:Nat,k≤q.length∧i=.int .i64 k∧Below (w.heap.size+1) (w.alloc (.cells #[.int .i64 time,.int .i64 next,.int .i64 kind,.int .i64 ent] 143)) wr∧Hid (jY e (q.drop k)+k=jY e q)) (fun i _=>q.length-(intOf i).toNat)
 case atStart=>exact⟨0,by omega,rfl,Below.refl _ _,rfl⟩
 case round=>
  obtain⟨k,hkl,rfl,hbel,hpos⟩:=hrel;have hzr:=hbel.size;rw[World.size_alloc]at hzr;have hb0:=(Below.refl w.heap.size w).alloc (Nat.le_refl _) (.cells #[.int .i64 time,.int .i64 next,.int .i64 kind,.int .i64 ent] 143)
  have hbw:Below w.heap.size w wr:=hb0.trans (hbel.mono (by omega))
  have g7:=aA hbw h7 hbk;have e0:wr.cell? ⟨w.heap.size,0,none⟩=some (.int .i64 time):=aA hbel (by simp[go_sem]) (by omega)
  have e1:wr.cell? ⟨w.heap.size,1,none⟩=some (.int .i64 next):=aA hbel (by simp[go_sem]) (by omega)
  have e2:wr.cell? ⟨w.heap.size,2,none⟩=some (.int .i64 kind):=aA hbel (by simp[go_sem]) (by omega)
  have e3:wr.cell? ⟨w.heap.size,3,none⟩=some (.int .i64 ent):=aA hbel (by simp[go_sem]) (by omega)
  have e5:=aA hbw h5 hbk
  by_cases hlt:k<q.length
  ·obtain⟨_,h0⟩|⟨qb,qoff,qcap,hqe,hql,hqm,hqR,hqc⟩:=hq
   ·rw[h0]at hlt;simp at hlt
   ·simp only[Value.slice.injEq]at hqe;obtain⟨rfl,-,rfl⟩:=hqe;have hqb:=hR qb hqR;obtain⟨x0,x1,x2,x3⟩:=hqc k (aR q[k]) (by simp[hlt])
    simp only[aR]at x0 x1 x2 x3;have x0:=aA hbw x0 hqb.1;have x1:=aA hbw x1 hqb.1;have x2:=aA hbw x2 hqb.1;have x3:=aA hbw x3 hqb.1;have hd:decide ((k:Int)<(q.length:Int))=true:=by simp;omega
    have hbz:w.heap.size<wr.heap.size:=by omega
    have hpd:=aCn (e:=e) hlt;have Hqk:Hid (∃ y:Ev,y=q[k]):=⟨_,rfl⟩;have hA:∀ W,Calls Tryz.prog 115 #[.agg #[.int .i64 q[k].time,.int .i64 q[k].number,.int .i64 q[k].kind,.int .i64 q[k].entity],.agg #[.int .i64 time,.int .i64 next,.int .i64 kind,.int .i64 ent]] W fun e' w'=>e'=.returned (.bool (cM q[k] e))∧Below W.heap.size W w':=by
     intro W;have:=aCk q[k] e W;rw[HE.out]at this ⊢;exact this
    have HA:=aB hA;clear hA;rcases hah:cM q[k] e with _|_
    ·rw[hah]at hpd;have Hp:Hid (jY e q=k):=by show _=_;rw[←hpos.out,hpd];simp
     clear hpd
     go_wp2
     go_region_with (go_at_call 115;refine(HA.out _).mono ?_;rintro e' w3 ⟨rfl,hb3⟩;rw[hah])
     all_goals
      have hb4:Below wr.heap.size wr w3:=(Below.refl _ _).drew.trans hb3;clear hb3;have hkcap:k<qc:=by omega
      have hkcap':(k:Int)<qc:=by omega
      have hb5:Below w.heap.size w w3:=hbw.trans (hb4.mono (by omega))
      have hz3:w.heap.size<w3.heap.size:=by have:=hb4.size;omega
      have f7:=aA hb5 h7 hbk;have f5:=aA hb5 h5 hbk;have f0:=aA hb4 e0 (by omega)
      have f1:=aA hb4 e1 (by omega)
      have f2:=aA hb4 e2 (by omega)
      have f3:=aA hb4 e3 (by omega)
      clear e0 e1 e2 e3 e5 g7 h5 h7
      go_wp2_with (at_builtin;refine aD rfl (.tmp 40) (.tmp 46) 115 rfl w3.heap.size 143 (.agg #[.int .i64 0,.int .i64 0,.int .i64 0,.int .i64 0]) 4 32 Tryz.underlying115 Tryz.info129 rfl (by omega) _ 0 [] rfl (World.ownsRow_nil _ _ _ _) _ k (aO ((q.map aR).take k)) rfl ?_ (by rw[cL];simp;omega) (dH _) (by omega) (by omega) (Nat.le_refl _) ?_)
      ·exact .inr (.inl ⟨qb,qoff,_,rfl,((hqc.below hb5 hqb.1).take k).row⟩)
      intro v1 w4 hown1 hgr1 hwh1;obtain⟨sa1,sc1,rfl⟩:=bF hown1.out;have hb6:Below w3.heap.size w3 w4:=(Below.refl _ _).grown hgr1.out (Nat.le_refl _) (by intro k hk;simp[Value.ownBlock]at hk)
      have hz4:=hb6.size;have f7:=aA hb6 f7 (by omega)
      have f5:=aA hb6 f5 (by omega)
      have f0:=aA hb6 f0 (by omega)
      have f1:=aA hb6 f1 (by omega)
      have f2:=aA hb6 f2 (by omega)
      have f3:=aA hb6 f3 (by omega)
      try simp only[Nat.zero_add,List.nil_append]at hown1
      go_wp2_with (at_builtin;refine aD rfl (.tmp 48) (.tmp 50) 115 rfl w3.heap.size 143 (.agg #[.int .i64 0,.int .i64 0,.int .i64 0,.int .i64 0]) 4 32 Tryz.underlying115 Tryz.info129 rfl (by omega) _ k (aO ((q.map aR).take k)) rfl (hown1.out.alloc _) _ 1 (aO [Ins.mk time next kind ent]) rfl (.inr (.inl ⟨w4.heap.size,0,_,rfl,?_⟩)) rfl (dH _) (by omega) (by omega) (by simp;omega) ?_)
      ·intro j u hu;have hj:j<4:=by have:=(List.getElem?_eq_some_iff.1 hu).1;simpa [aO,cP]using this
       have:j=0∨j=1∨j=2∨j=3:=by omega
       rcases this with rfl|rfl|rfl|rfl<;>simp[aO,cP]at hu<;>subst hu<;>simp[go_sem]
      intro v2 w5 hown2 hgr2 hwh2;obtain⟨sa2,sc2,rfl⟩:=bF hown2.out;have hb7:Below w3.heap.size w4 w5:=((Below.refl _ _).alloc (by omega) _).grown hgr2.out (by simp;omega) (fun b hb=>(hown1.out.lt b hb).1)
      have hz5:=hb7.size;have f7:=aA hb7 f7 (by omega)
      have f5:=aA hb7 f5 (by omega)
      have f1:=aA hb7 f1 (by omega)
      have hb37:Below w3.heap.size w3 w5:=hb6.trans hb7;have z7:w5.frozen? ⟨rb,7,none⟩=false:=((hroom.below (hb5.trans (hb37.mono (by omega))) hbk) 7 (by omega)).2
      have z5:w5.frozen? ⟨rb,5,none⟩=false:=((hroom.below (hb5.trans (hb37.mono (by omega))) hbk) 5 (by omega)).2
      clear f0 f2 f3;have hflat:aO ((q.map aR).take k)++aO [Ins.mk time next kind ent]=aO ((q.map aR).take k++[Ins.mk time next kind ent]):=by simp[aO]
      rw[hflat]at hown2;clear hflat
      go_wp2_with (at_builtin;refine aD rfl (.tmp 53) (.tmp 59) 115 rfl w3.heap.size 143 (.agg #[.int .i64 0,.int .i64 0,.int .i64 0,.int .i64 0]) 4 32 Tryz.underlying115 Tryz.info129 rfl (by omega) _ (k+1) (aO ((q.map aR).take k++[Ins.mk time next kind ent])) rfl hown2.out _ (q.length-k) (aO ((q.map aR).drop k)) rfl ?_ (by rw[cL];simp) (dH _) (by omega) (by omega) (by omega) ?_)
      ·exact .inr (.inl ⟨qb,_,_,rfl,((hqc.below (hb5.trans (hb37.mono (by omega))) hqb.1).drop k).row⟩)
      intro v3 w6 hown3 hgr3 hwh3;obtain⟨sa3,sc3,rfl⟩:=bF hown3.out;have hb8:Below w3.heap.size w5 w6:=(Below.refl _ _).grown hgr3.out (by omega) (fun b hb=>(hown2.out.lt b hb).1)
      have hz6:=hb8.size;have f7:=aA hb8 f7 (by omega)
      have f5:=aA hb8 f5 (by omega)
      have f1:=aA hb8 f1 (by omega)
      have z7:w6.frozen? ⟨rb,7,none⟩=false:=(hb8.frozen (p:=⟨rb,7,none⟩) (by show rb<_;omega)).trans z7
      have z5:w6.frozen? ⟨rb,5,none⟩=false:=(hb8.frozen (p:=⟨rb,5,none⟩) (by show rb<_;omega)).trans z5
      have hrb:rb≠w.heap.size:=by omega
      go_wp2
      go_ret;exact mS hP.out hbk hR (hb5.trans ((hb37.trans hb8).mono (by omega))) HE.out Hp.out hkl (by omega) hown3.out (by omega) (by omega)
    ·rw[hah,if_pos rfl]at hpd;have Hp:Hid (jY e (q.drop (k+1))+(k+1)=jY e q):=by show _=_;rw[←hpos.out,hpd];omega
     clear hpd
     go_wp2
     go_region_with (go_at_call 115;refine(HA.out _).mono ?_;rintro e' w3 ⟨rfl,hb3⟩;rw[hah])
     all_goals
      have hb4:Below wr.heap.size wr w3:=(Below.refl _ _).drew.trans hb3;clear hb3
      go_wp2
      go_roundw
      case rel=>exact⟨k+1,by omega,by go_num,hbel.trans (hb4.mono (by omega)),Hp⟩
      case measure=>simp[intOf];omega
  ·have hk':k=q.length:=by omega
   have Hp:Hid (jY e q=k):=by
    show _=_;rw[←hpos.out,List.drop_of_length_le (by omega)];simp[jY]
   have hd:decide ((k:Int)<(q.length:Int))=false:=by simp;omega
   obtain⟨hqn,h0q⟩|⟨qb,qoff,qcap,hqe,hql,hqm,hqR,hqc⟩:=hq
   ·exact absurd (by rw[h7,hqn]) hv7
   ·simp only[Value.slice.injEq]at hqe;obtain⟨rfl,-,rfl⟩:=hqe;have hqb:=hR qb hqR;have Hk':=aB hk';clear hk';have hkc:(k:Int)≤qc:=by omega
    have hkc2:k≤qc:=by omega
    have hqlc:(q.length:Int)≤qc:=by omega
    by_cases hkq:qc=k
    ·go_wp2
     go_quiet (fail)
     have hb4:Below wr.heap.size wr (wr.drewN nq):=below_drewN (Below.refl _ _) nq;generalize wr.drewN nq=w3 at hb4 ⊢;have hb5:Below w.heap.size w w3:=hbw.trans (hb4.mono (by omega))
     have hz3:w.heap.size<w3.heap.size:=by have:=hb4.size;omega
     have f7:=aA hb5 h7 hbk;have f5:=aA hb5 h5 hbk;have f0:=aA hb4 e0 (by omega)
     have f1:=aA hb4 e1 (by omega)
     have f2:=aA hb4 e2 (by omega)
     have f3:=aA hb4 e3 (by omega)
     clear e0 e1 e2 e3 e5 g7 h5 h7
     go_wp2_with (at_builtin;refine aD rfl (.tmp 40) (.tmp 46) 115 rfl w3.heap.size 143 (.agg #[.int .i64 0,.int .i64 0,.int .i64 0,.int .i64 0]) 4 32 Tryz.underlying115 Tryz.info129 rfl (by omega) _ 0 [] rfl (World.ownsRow_nil _ _ _ _) _ k (aO ((q.map aR).take k)) rfl ?_ (by rw[cL];simp;omega) (dH _) (by omega) (by omega) (Nat.le_refl _) ?_)
     ·exact .inr (.inl ⟨qb,qoff,_,rfl,((hqc.below hb5 hqb.1).take k).row⟩)
     intro v1 w4 hown1 hgr1 hwh1;obtain⟨sa1,sc1,rfl⟩:=bF hown1.out;have hb6:Below w3.heap.size w3 w4:=(Below.refl _ _).grown hgr1.out (Nat.le_refl _) (by intro k hk;simp[Value.ownBlock]at hk)
     have hz4:=hb6.size;have f7:=aA hb6 f7 (by omega)
     have f5:=aA hb6 f5 (by omega)
     have f0:=aA hb6 f0 (by omega)
     have f1:=aA hb6 f1 (by omega)
     have f2:=aA hb6 f2 (by omega)
     have f3:=aA hb6 f3 (by omega)
     try simp only[Nat.zero_add,List.nil_append]at hown1
     go_wp2_with (at_builtin;refine aD rfl (.tmp 48) (.tmp 50) 115 rfl w3.heap.size 143 (.agg #[.int .i64 0,.int .i64 0,.int .i64 0,.int .i64 0]) 4 32 Tryz.underlying115 Tryz.info129 rfl (by omega) _ k (aO ((q.map aR).take k)) rfl (hown1.out.alloc _) _ 1 (aO [Ins.mk time next kind ent]) rfl (.inr (.inl ⟨w4.heap.size,0,_,rfl,?_⟩)) rfl (dH _) (by omega) (by omega) (by simp;omega) ?_)
     ·intro j u hu;have hj:j<4:=by have:=(List.getElem?_eq_some_iff.1 hu).1;simpa [aO,cP]using this
      have:j=0∨j=1∨j=2∨j=3:=by omega
      rcases this with rfl|rfl|rfl|rfl<;>simp[aO,cP]at hu<;>subst hu<;>simp[go_sem]
     intro v2 w5 hown2 hgr2 hwh2;obtain⟨sa2,sc2,rfl⟩:=bF hown2.out;have hb7:Below w3.heap.size w4 w5:=((Below.refl _ _).alloc (by omega) _).grown hgr2.out (by simp;omega) (fun b hb=>(hown1.out.lt b hb).1)
     have hz5:=hb7.size;have f7:=aA hb7 f7 (by omega)
     have f5:=aA hb7 f5 (by omega)
     have f1:=aA hb7 f1 (by omega)
     have hb37:Below w3.heap.size w3 w5:=hb6.trans hb7;have z7:w5.frozen? ⟨rb,7,none⟩=false:=((hroom.below (hb5.trans (hb37.mono (by omega))) hbk) 7 (by omega)).2
     have z5:w5.frozen? ⟨rb,5,none⟩=false:=((hroom.below (hb5.trans (hb37.mono (by omega))) hbk) 5 (by omega)).2
     clear f0 f2 f3;have hflat:aO ((q.map aR).take k)++aO [Ins.mk time next kind ent]=aO ((q.map aR).take k++[Ins.mk time next kind ent]):=by simp[aO]
     rw[hflat]at hown2;clear hflat
     go_wp2_with (at_builtin;refine aD rfl (.tmp 53) (.tmp 59) 115 rfl w3.heap.size 143 (.agg #[.int .i64 0,.int .i64 0,.int .i64 0,.int .i64 0]) 4 32 Tryz.underlying115 Tryz.info129 rfl (by omega) _ (k+1) (aO ((q.map aR).take k++[Ins.mk time next kind ent])) rfl hown2.out _ (q.length-k) (aO ((q.map aR).drop k)) rfl ?_ (by rw[cL];simp) (dH _) (by omega) (by omega) (by omega) ?_)
     ·exact .inr (.inl ⟨qb,_,_,rfl,fun j v hv=>by rw[List.drop_of_length_le (by simp;have:=Hk'.out;omega)]at hv;simp[aO]at hv⟩)
     intro v3 w6 hown3 hgr3 hwh3;obtain⟨sa3,sc3,rfl⟩:=bF hown3.out;have hb8:Below w3.heap.size w5 w6:=(Below.refl _ _).grown hgr3.out (by omega) (fun b hb=>(hown2.out.lt b hb).1)
     have hz6:=hb8.size;have f7:=aA hb8 f7 (by omega)
     have f5:=aA hb8 f5 (by omega)
     have f1:=aA hb8 f1 (by omega)
     have z7:w6.frozen? ⟨rb,7,none⟩=false:=(hb8.frozen (p:=⟨rb,7,none⟩) (by show rb<_;omega)).trans z7
     have z5:w6.frozen? ⟨rb,5,none⟩=false:=(hb8.frozen (p:=⟨rb,5,none⟩) (by show rb<_;omega)).trans z5
     have hrb:rb≠w.heap.size:=by omega
     go_wp2
     go_ret;exact mS hP.out hbk hR (hb5.trans ((hb37.trans hb8).mono (by omega))) HE.out Hp.out hkl (by omega) hown3.out (by omega) (by omega)
    ·go_wp2
     go_quiet (fail)
     have hb4:Below wr.heap.size wr (wr.drewN nq):=below_drewN (Below.refl _ _) nq;generalize wr.drewN nq=w3 at hb4 ⊢;have hb5:Below w.heap.size w w3:=hbw.trans (hb4.mono (by omega))
     have hz3:w.heap.size<w3.heap.size:=by have:=hb4.size;omega
     have f7:=aA hb5 h7 hbk;have f5:=aA hb5 h5 hbk;have f0:=aA hb4 e0 (by omega)
     have f1:=aA hb4 e1 (by omega)
     have f2:=aA hb4 e2 (by omega)
     have f3:=aA hb4 e3 (by omega)
     clear e0 e1 e2 e3 e5 g7 h5 h7
     go_wp2_with (at_builtin;refine aD rfl (.tmp 40) (.tmp 46) 115 rfl w3.heap.size 143 (.agg #[.int .i64 0,.int .i64 0,.int .i64 0,.int .i64 0]) 4 32 Tryz.underlying115 Tryz.info129 rfl (by omega) _ 0 [] rfl (World.ownsRow_nil _ _ _ _) _ k (aO ((q.map aR).take k)) rfl ?_ (by rw[cL];simp;omega) (dH _) (by omega) (by omega) (Nat.le_refl _) ?_)
     ·exact .inr (.inl ⟨qb,qoff,_,rfl,((hqc.below hb5 hqb.1).take k).row⟩)
     intro v1 w4 hown1 hgr1 hwh1;obtain⟨sa1,sc1,rfl⟩:=bF hown1.out;have hb6:Below w3.heap.size w3 w4:=(Below.refl _ _).grown hgr1.out (Nat.le_refl _) (by intro k hk;simp[Value.ownBlock]at hk)
     have hz4:=hb6.size;have f7:=aA hb6 f7 (by omega)
     have f5:=aA hb6 f5 (by omega)
     have f0:=aA hb6 f0 (by omega)
     have f1:=aA hb6 f1 (by omega)
     have f2:=aA hb6 f2 (by omega)
     have f3:=aA hb6 f3 (by omega)
     try simp only[Nat.zero_add,List.nil_append]at hown1
     go_wp2_with (at_builtin;refine aD rfl (.tmp 48) (.tmp 50) 115 rfl w3.heap.size 143 (.agg #[.int .i64 0,.int .i64 0,.int .i64 0,.int .i64 0]) 4 32 Tryz.underlying115 Tryz.info129 rfl (by omega) _ k (aO ((q.map aR).take k)) rfl (hown1.out.alloc _) _ 1 (aO [Ins.mk time next kind ent]) rfl (.inr (.inl ⟨w4.heap.size,0,_,rfl,?_⟩)) rfl (dH _) (by omega) (by omega) (by simp;omega) ?_)
     ·intro j u hu;have hj:j<4:=by have:=(List.getElem?_eq_some_iff.1 hu).1;simpa [aO,cP]using this
      have:j=0∨j=1∨j=2∨j=3:=by omega
      rcases this with rfl|rfl|rfl|rfl<;>simp[aO,cP]at hu<;>subst hu<;>simp[go_sem]
     intro v2 w5 hown2 hgr2 hwh2;obtain⟨sa2,sc2,rfl⟩:=bF hown2.out;have hb7:Below w3.heap.size w4 w5:=((Below.refl _ _).alloc (by omega) _).grown hgr2.out (by simp;omega) (fun b hb=>(hown1.out.lt b hb).1)
     have hz5:=hb7.size;have f7:=aA hb7 f7 (by omega)
     have f5:=aA hb7 f5 (by omega)
     have f1:=aA hb7 f1 (by omega)
     have hb37:Below w3.heap.size w3 w5:=hb6.trans hb7;have z7:w5.frozen? ⟨rb,7,none⟩=false:=((hroom.below (hb5.trans (hb37.mono (by omega))) hbk) 7 (by omega)).2
     have z5:w5.frozen? ⟨rb,5,none⟩=false:=((hroom.below (hb5.trans (hb37.mono (by omega))) hbk) 5 (by omega)).2
     clear f0 f2 f3;have hflat:aO ((q.map aR).take k)++aO [Ins.mk time next kind ent]=aO ((q.map aR).take k++[Ins.mk time next kind ent]):=by simp[aO]
     rw[hflat]at hown2;clear hflat
     go_wp2_with (at_builtin;refine aD rfl (.tmp 53) (.tmp 59) 115 rfl w3.heap.size 143 (.agg #[.int .i64 0,.int .i64 0,.int .i64 0,.int .i64 0]) 4 32 Tryz.underlying115 Tryz.info129 rfl (by omega) _ (k+1) (aO ((q.map aR).take k++[Ins.mk time next kind ent])) rfl hown2.out _ (q.length-k) (aO ((q.map aR).drop k)) rfl ?_ (by rw[cL];simp) (dH _) (by omega) (by omega) (by omega) ?_)
     ·exact .inr (.inl ⟨qb,_,_,rfl,fun j v hv=>by rw[List.drop_of_length_le (by simp;have:=Hk'.out;omega)]at hv;simp[aO]at hv⟩)
     intro v3 w6 hown3 hgr3 hwh3;obtain⟨sa3,sc3,rfl⟩:=bF hown3.out;have hb8:Below w3.heap.size w5 w6:=(Below.refl _ _).grown hgr3.out (by omega) (fun b hb=>(hown2.out.lt b hb).1)
     have hz6:=hb8.size;have f7:=aA hb8 f7 (by omega)
     have f5:=aA hb8 f5 (by omega)
     have f1:=aA hb8 f1 (by omega)
     have z7:w6.frozen? ⟨rb,7,none⟩=false:=(hb8.frozen (p:=⟨rb,7,none⟩) (by show rb<_;omega)).trans z7
     have z5:w6.frozen? ⟨rb,5,none⟩=false:=(hb8.frozen (p:=⟨rb,5,none⟩) (by show rb<_;omega)).trans z5
     have hrb:rb≠w.heap.size:=by omega
     go_wp2
     go_ret;exact mS hP.out hbk hR (hb5.trans ((hb37.trans hb8).mono (by omega))) HE.out Hp.out hkl (by omega) hown3.out (by omega) (by omega)
theorem vS{R:Nat→Prop}(rb:Nat)(ents:Int)(ks:List (List Ins))(draws:List Int)(taken clock next:Int)(regs:List Int)(q:List Ev)(time kind ent:Int)(w:World)(h:RefK R w rb ents ks draws taken clock next regs q)
  (hR:∀ b,R b→b<w.heap.size∧b≠rb) (hq16:q.length<16) (hn0:0≤next) (hn1:next<1000000000) :
  Calls Tryz.prog 88 #[.pointer (some ⟨rb,0,none⟩),.int .i64 time,.int .i64 kind,.int .i64 ent] w fun e w'=>e=.returned (.int .i64 next)∧Only (·=rb) w w' ∧
   RefK (fun b=>R b∨(w.heap.size≤b∧b<w'.heap.size)) w' rb ents ks draws taken clock (next+1) regs (dR ⟨time,next,kind,ent⟩ q)∧mE w w' rb next (dR ⟨time,next,kind,ent⟩ q):=by
 by_cases hv7:w.cell? ⟨rb,7,none⟩=some (.slice none 0 0)
 ·have hq0:q=[]:=by
   obtain⟨⟨kv,dv,rv,qv,h0,h1,h2,h3,h4,h5,h6,h7,hk,hd,hr,hq⟩,hroom⟩:=h;rcases hq with⟨_,h⟩|⟨b,off,cap,rfl,_⟩
   ·exact h
   ·rw[h7]at hv7;simp at hv7
  subst hq0;exact aCl rb ents ks draws taken clock next regs time kind ent w h hR hv7 hn0 hn1
 ·exact aAh rb ents ks draws taken clock next regs q time kind ent w h hR hq16 hv7 hn0 hn1
theorem RefK.only{R S:Nat→Prop}{w w':World}{rb:Nat}{ents:Int}{ks:List (List Ins)}{draws:List Int}{taken clock next:Int}{regs:List Int}{q:List Ev}(h:RefK R w rb ents ks draws taken clock next regs q)(ho:Only S w w')(hR:∀ b,R b→¬S b)(hb:¬S rb):RefK R w' rb ents ks draws taken clock next regs q:=by
 obtain⟨⟨kv,dv,rv,qv,h0,h1,h2,h3,h4,h5,h6,h7,hk,hd,hr,hq⟩,hroom⟩:=h;exact⟨⟨kv,dv,rv,qv,ho.at h0 hb,ho.at h1 hb,ho.at h2 hb,ho.at h3 hb,ho.at h4 hb,ho.at h5 hb,ho.at h6 hb,ho.at h7 hb,hk.only ho hR,hd.only ho hR,hr.only ho hR,hq.only ho hR⟩,hroom.only ho hb⟩
theorem RefK.mono{R R':Nat→Prop}{w:World}{rb:Nat}{ents:Int}{ks:List (List Ins)}{draws:List Int}{taken clock next:Int}{regs:List Int}{q:List Ev}(h:RefK R w rb ents ks draws taken clock next regs q)(hR:∀ b,R b→R' b):RefK R' w rb ents ks draws taken clock next regs q:=by
 obtain⟨⟨kv,dv,rv,qv,h0,h1,h2,h3,h4,h5,h6,h7,hk,hd,hr,hq⟩,hroom⟩:=h;exact⟨⟨kv,dv,rv,qv,h0,h1,h2,h3,h4,h5,h6,h7,hk.mono hR,hd.mono hR,hr.mono hR,hq.mono hR⟩,hroom⟩
theorem aCm{R:Nat→Prop}(rb:Nat)(ents:Int)(ks:List (List Ins))(draws:List Int)(taken clock next:Int)(regs:List Int)(q:List Ev)(time kind ent:Int)(w:World)(h:RefK R w rb ents ks draws taken clock next regs q)(he:1≤ents)(he':ents≤8)(hk:ks.length≤8)
  (hno:((inB time clock 1000000000000&&inB kind 0 (ks.length-1))&&inB ent 0 (ents-1))=false) :
  Calls Tryz.prog 45 #[.pointer (some ⟨rb,0,none⟩),.int .i64 time,.int .i64 kind,.int .i64 ent] w fun e w'=>e=.returned (.tuple #[.int .i64 0,.int .i64 1])∧w'=w:=by
 obtain⟨⟨kv,dv,rv,qv,h0,h1,h2,h3,h4,h5,h6,h7,hk',hd,hr,hq⟩,hroom⟩:=h;obtain⟨ka,kc,rfl⟩:=hk'.form;clear h2 h3 h5 h6 h7 hk' hd hr hq hroom;rcases t1:inB time clock 1000000000000 with _|_<;>rcases t2:inB kind 0 (ks.length-1)with _|_<;>rcases t3:inB ent 0 (ents-1)with _|_
 case true.true.true=>simp[t1,t2,t3]at hno
 all_goals
  clear hno
  go_enter Tryz.func45,Tryz.ntmps45
  go_wp2_with (go_at_call 57;refine(dF _ _ _ _).mono ?_;rintro e w1 ⟨rfl,rfl⟩)
  go_ret2;exact⟨rfl,rfl⟩
theorem yL{R:Nat→Prop}(rb:Nat)(ents:Int)(ks:List (List Ins))(draws:List Int)(taken clock next:Int)(regs:List Int)(q:List Ev)(time kind ent:Int)(w:World)(h:RefK R w rb ents ks draws taken clock next regs q)(he:1≤ents)(he':ents≤8)(hk:ks.length≤8)
  (hR:∀ b,R b→b<w.heap.size∧b≠rb) (hn0:0≤next)
  (hyes:((inB time clock 1000000000000&&inB kind 0 (ks.length-1))&&inB ent 0 (ents-1))=true) :
  Calls Tryz.prog 45 #[.pointer (some ⟨rb,0,none⟩),.int .i64 time,.int .i64 kind,.int .i64 ent] w fun e w'=>
   ((decide (q.length<16)&&decide (next<1000000000))=false∧e=.returned (.tuple #[.int .i64 0,.int .i64 3])∧w'=w) ∨
   ((decide (q.length<16)&&decide (next<1000000000))=true∧e=.returned (.tuple #[.int .i64 next,.int .i64 0])∧Only (·=rb) w w' ∧
    RefK (fun b=>R b∨(w.heap.size≤b∧b<w'.heap.size)) w' rb ents ks draws taken clock (next+1) regs (dR ⟨time,next,kind,ent⟩ q)):=by
 have hP:=aB h;obtain⟨⟨kv,dv,rv,qv,h0,h1,h2,h3,h4,h5,h6,h7,hk',hd,hr,hq⟩,hroom⟩:=h;obtain⟨ka,kc,rfl⟩:=hk'.form;clear h2 h3 h5 h6 h7 hk' hd hr hq hroom;simp only[Bool.and_eq_true]at hyes;obtain⟨⟨t1,t2⟩,t3⟩:=hyes;rcases hrm:(decide (q.length<16)&&decide (next<1000000000))with _|_
 ·have Hrm:=aB hrm;clear hrm
  go_enter Tryz.func45,Tryz.ntmps45
  go_wp2_with (first|(go_at_call 57;refine(dF _ _ _ _).mono ?_;rintro e w1 ⟨rfl,rfl⟩)|(go_at_call 87;refine(sU rb ents ks draws taken clock next regs q _ hP.out).mono ?_;rintro e w1 ⟨rfl,rfl⟩;rw[Hrm.out]))
  go_ret2;exact .inl ⟨by trivial,rfl,rfl⟩
 ·have Hrm:=aB hrm;have hrm':=hrm;simp only[Bool.and_eq_true,decide_eq_true_eq]at hrm';obtain⟨r1,r2⟩:=hrm';clear hrm
  go_enter Tryz.func45,Tryz.ntmps45
  go_wp2_with (first|(go_at_call 57;refine(dF _ _ _ _).mono ?_;rintro e w1 ⟨rfl,rfl⟩)|(go_at_call 87;refine(sU rb ents ks draws taken clock next regs q _ hP.out).mono ?_;rintro e w1 ⟨rfl,rfl⟩;rw[Hrm.out])|(go_at_call 88;refine(vS rb ents ks draws taken clock next regs q _ _ _ _ hP.out hR r1 hn0 r2).mono ?_;rintro e w2 ⟨rfl,ho2,hP2,_⟩))
  go_ret2;exact .inr ⟨by trivial,rfl,ho2,hP2⟩
end Go.Proofs.YtndlmgocldckfaaGreat
