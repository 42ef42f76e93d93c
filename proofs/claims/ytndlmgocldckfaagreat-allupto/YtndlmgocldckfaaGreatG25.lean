import Derived.Test.YtndlmgocldckfaaGreatRfL
import Derived.Test.YtndlmgocldckfaaGreatG06
import Derived.Test.YtndlmgocldckfaaGreatG20
import Derived.Test.YtndlmgocldckfaaGreatG21
import Derived.Test.YtndlmgocldckfaaGreatG24
import Derived.Test.YtndlmgocldckfaaGreatG17
namespace Go.Proofs.YtndlmgocldckfaaGreat
open Go.RowKit
set_option linter.unusedVariables false
set_option linter.unusedSimpArgs false
set_option maxRecDepth 100000
set_option maxHeartbeats 4000000
def qW(w:World)(rb:Nat)(v3 v4 v5 v6 v7:Value):World:=((((w.setCell ⟨rb,3,none⟩ v3).setCell ⟨rb,4,none⟩ v4).setCell ⟨rb,5,none⟩ v5).setCell ⟨rb,6,none⟩ v6).setCell ⟨rb,7,none⟩ v7
theorem wC(w:World)(rb:Nat)(v3 v4 v5 v6 v7:Value):Only (·=rb) w (qW w rb v3 v4 v5 v6 v7):=(((((Only.refl _ _).setCell (S:=(·=rb)) (p:=⟨rb,3,none⟩) rfl _).setCell (p:=⟨rb,4,none⟩) rfl _).setCell (p:=⟨rb,5,none⟩) rfl _).setCell (p:=⟨rb,6,none⟩) rfl _).setCell (p:=⟨rb,7,none⟩) rfl _
theorem nV{w:World}{rb:Nat}{v3 v4 v5 v6 v7:Value}{o:Nat}{v:Value}(ho:o<3)(h:w.cell? ⟨rb,o,none⟩=some v):(qW w rb v3 v4 v5 v6 v7).cell? ⟨rb,o,none⟩=some v:=by
 unfold qW;rw[World.cell?_setCell_other _ _ _ _ (by simp<;>omega),World.cell?_setCell_other _ _ _ _ (by simp<;>omega),World.cell?_setCell_other _ _ _ _ (by simp<;>omega),World.cell?_setCell_other _ _ _ _ (by simp<;>omega),World.cell?_setCell_other _ _ _ _ (by simp<;>omega)]
 exact h
theorem aFq{w:World}{rb:Nat}(h:Room w rb 8)(v3 v4 v5 v6 v7:Value):(qW w rb v3 v4 v5 v6 v7).cell? ⟨rb,3,none⟩=some v3∧(qW w rb v3 v4 v5 v6 v7).cell? ⟨rb,4,none⟩=some v4∧(qW w rb v3 v4 v5 v6 v7).cell? ⟨rb,5,none⟩=some v5∧(qW w rb v3 v4 v5 v6 v7).cell? ⟨rb,6,none⟩=some v6∧(qW w rb v3 v4 v5 v6 v7).cell? ⟨rb,7,none⟩=some v7:=by
 unfold qW;refine⟨?_,?_,?_,?_,?_⟩
 ·rw[World.cell?_setCell_other _ _ _ _ (by simp),World.cell?_setCell_other _ _ _ _ (by simp),World.cell?_setCell_other _ _ _ _ (by simp),World.cell?_setCell_other _ _ _ _ (by simp)]
  exact World.cell?_setCell_same' _ _ _ (h 3 (by omega)).1
 ·rw[World.cell?_setCell_other _ _ _ _ (by simp),World.cell?_setCell_other _ _ _ _ (by simp),World.cell?_setCell_other _ _ _ _ (by simp)]
  exact World.cell?_setCell_same' _ _ _ ((h.setCell _ _) 4 (by omega)).1
 ·rw[World.cell?_setCell_other _ _ _ _ (by simp),World.cell?_setCell_other _ _ _ _ (by simp)]
  exact World.cell?_setCell_same' _ _ _ (((h.setCell _ _).setCell _ _) 5 (by omega)).1
 ·rw[World.cell?_setCell_other _ _ _ _ (by simp)]
  exact World.cell?_setCell_same' _ _ _ ((((h.setCell _ _).setCell _ _).setCell _ _) 6 (by omega)).1
 ·exact World.cell?_setCell_same' _ _ _ (((((h.setCell _ _).setCell _ _).setCell _ _).setCell _ _) 7 (by omega)).1
theorem RefK.take{R' R'':Nat→Prop}{w:World}{rb cb gb:Nat}{ents:Int}{ks:List (List Ins)}{draws:List Int}{tk ck nx:Int}{rg:List Int}{q:List Ev}{st:KS}(h:RefK R' w rb ents ks draws tk ck nx rg q)(hc:RefC R'' w cb gb ents ks draws st)(he:0≤ents∧ents≤8)
  (hR':∀ b,R' b→b≠rb) (hR'':∀ b,R'' b→b≠rb) (hg:gb≠rb) {cap:Nat} {qv:Value} (h7:w.cell? ⟨cb,7,none⟩=some qv) (hcap:(ents*4).toNat≤cap) :
  RefK (fun b=>R' b∨R'' b∨b=gb) (qW w rb (.int .i64 st.taken) (.int .i64 st.clock) (.int .i64 st.next) (.slice (some ⟨gb,0,none⟩) (ents*4).toNat cap) qv) rb ents ks draws st.taken st.clock st.next (cY ents st) st.q:=by
 obtain⟨⟨kv,dv,rv,qv',h0,h1,h2,h3,h4,h5,h6,h7',hk,hd,hr,hq⟩,hroom⟩:=h;have ho:=wC w rb (.int .i64 st.taken) (.int .i64 st.clock) (.int .i64 st.next) (.slice (some ⟨gb,0,none⟩) (ents*4).toNat cap) qv
 obtain⟨c3,c4,c5,c6,c7⟩:=aFq hroom (.int .i64 st.taken) (.int .i64 st.clock) (.int .i64 st.next) (.slice (some ⟨gb,0,none⟩) (ents*4).toNat cap) qv
 obtain⟨qv2,q1,q2⟩:=hc.que;have e:qv2=qv:=by rw[h7]at q1;exact(Option.some.inj q1).symm
 subst e;refine⟨⟨kv,dv,_,qv2,nV (by omega) h0,nV (by omega) h1,nV (by omega) h2,c3,c4,c5,c6,c7,(hk.only ho hR').mono (fun b hb=>.inl hb),(hd.only ho hR').mono (fun b hb=>.inl hb),⟨by rw[dI];omega,.inr ⟨gb,0,cap,by rw[dI],.inr (.inr rfl),?_⟩⟩,(q2.only ho hR'').mono (fun b hb=>.inr (.inl hb))⟩,(((((hroom.setCell _ _).setCell _ _).setCell _ _).setCell _ _).setCell _ _)⟩
 intro j v hv;have hj:j<(ents*4).toNat:=by have:=(List.getElem?_eq_some_iff.1 hv).1;simpa [ints,cY]using this
 simp[ints,cY,hj]at hv;subst hv;rw[Nat.zero_add];exact ho.at (hc.regs j hj) hg
structure RrI(R:Nat→Prop)(w wr:World)(rb:Nat)(ents:Int)(ks:List (List Ins))(draws:List Int)(horizon:Int)(n k:Nat)(RES:KS×List Rec×Int)(av:Value)(st:KS)(L:List RecC)(rs:List Rec)(R':Nat→Prop):Prop where
 only:Only (·=rb) w wr
 ref:RefK R' wr rb ents ks draws st.taken st.clock st.next (cY ents st) st.q
 sub:∀ b,R' b→R b∨w.heap.size≤b
 lt:∀ b,R' b→b<wr.heap.size∧b≠rb
 all:AllR wr w.heap.size av L rs
 nap:∀ b,some b=av.ownBlock→¬R' b
 fit:Fit ents ks draws st
 res:RES=((eB ks draws horizon (n-k) st).1,rs++(eB ks draws horizon (n-k) st).2.1,(eB ks draws horizon (n-k) st).2.2)
 len:rs.length=k
theorem aEp(rb:Nat)(steps horizon:Int)(w:World)(hs:¬(0≤steps∧steps≤1000)) :
  Calls Tryz.prog 47 #[.pointer (some ⟨rb,0,none⟩),.int .i64 steps,.int .i64 horizon] w fun e w'=>e=.returned (.tuple #[.slice none 0 0,.int .i64 0,.int .i64 1])∧w'=w:=by
 have hb:inB steps 0 1000=false:=by simp only[inB,Bool.and_eq_false_iff,decide_eq_false_iff_not];omega
 go_enter Tryz.func47,Tryz.ntmps47
 go_wp2_with (go_at_call 57;refine(dF _ _ _ _).mono ?_;rintro e w1 ⟨rfl,rfl⟩;rw[hb])
 go_ret3
 exact⟨rfl,rfl⟩
theorem aEq{R:Nat→Prop}(rb:Nat)(ents:Int)(ks:List (List Ins))(draws:List Int)(s:KS)(n:Nat)(horizon:Int)(w:World)(h:RefK R w rb ents ks draws s.taken s.clock s.next (cY ents s) s.q)(hR:∀ b,R b→b<w.heap.size∧b≠rb)(hfit:Fit ents ks draws s)(he:1≤ents∧ents≤8)(hk8:ks.length≤8)(hn:n≤1000)
  (hcode:lH ents ks) (hdl:draws.length≤1000) (hd:mX draws) (RES:KS×List Rec×Int) (hRES:RES=eB ks draws horizon n s) :
  Calls Tryz.prog 47 #[.pointer (some ⟨rb,0,none⟩),.int .i64 n,.int .i64 horizon] w fun e w'=>∃ av L R',e=.returned (.tuple #[av,.int .i64 RES.2.2,.int .i64 0])∧Only (·=rb) w w'∧RefK R' w' rb ents ks draws RES.1.taken RES.1.clock RES.1.next (cY ents RES.1) RES.1.q∧(∀ b,R' b→R b∨w.heap.size≤b)∧(∀ b,R' b→b<w'.heap.size∧b≠rb)∧AllR w' w.heap.size av L RES.2.1:=by
 have hb:inB (n:Int) 0 1000=true:=by simp[inB];omega
 have hrl:rb<w.heap.size:=by obtain⟨⟨_,_,_,_,h0,_⟩,_⟩:=h;exact aC h0
 have HS:Hid (RrI R w w rb ents ks draws horizon n 0 RES (.slice none 0 0) s [] [] R):=
  ⟨Only.refl _ _,h,fun b hb=>.inl hb,hR,AllR.nil _ _,by simp[Value.ownBlock],hfit,by rw[hRES];simp,rfl⟩
 have HR:=aB hR;have Hcode:=aB hcode;have Hd:=aB hd;clear h hfit hRES hcode hd hR
 go_enter Tryz.func47,Tryz.ntmps47
 go_wp2_with (go_at_call 57;refine(dF _ _ _ _).mono ?_;rintro e w1 ⟨rfl,hw1⟩;rw[hb])
 clear hw1
 go_loopw [10,11] (fun av i wr=>∃ (k:Nat) (st:KS) (L:List RecC) (rs:List Rec) (R':Nat→Prop),k≤n∧i=.int .i64 k∧RrI R w wr rb ents ks draws horizon n k RES av st L rs R') (fun _ i _=>n-(intOf i).toNat)
 case atStart=>exact⟨0,s,[],[],R,Nat.zero_le _,rfl,HS.out⟩
 case round=>
  obtain⟨k,st,L,rs,R',hk,rfl,hI⟩:=hrel;have HI:=aB hI;clear hI HS;obtain⟨va,vc,rfl⟩:=bR HI.out.all.row;have hzr:=HI.out.only.size
  by_cases hlt:k<n
  ·have d1:decide ((k:Int)<(n:Int))=true:=by simp;omega
   obtain⟨m,hm⟩:∃ m,n-k=m+1:=⟨n-k-1,by omega⟩
   obtain⟨⟨kv,dv,rv,qv,h0,h1,h2,h3,h4,h5,h6,h7,hkk,hdd,hrr,hqq⟩,hroom⟩:=HI.out.ref;obtain⟨qa,qc,rfl⟩:=hqq.form;rcases hq:st.q with _|⟨e,l⟩
   ·have hF:RES=(st,rs,1):=by
     rw[HI.out.res,hm];simp[eB,eN,hq]
    have HF:=aB hF;have hql:st.q.length=0:=by rw[hq];rfl
    rw[hql]at h7;clear hF h0 h1 h2 h3 h4 h5 h6 hkk hdd hrr hqq hroom hq hm
    go_wp2_with fail
    go_ret3
    rw[HF.out];exact⟨_,L,R',rfl,HI.out.only,HI.out.ref,HI.out.sub,HI.out.lt,HI.out.all⟩
   ·have hql:st.q.length=l.length+1:=by rw[hq];rfl
    rw[hql]at h7;obtain⟨qb,qo,rfl,m0⟩:∃ qb qo,qa=some ⟨qb,qo,none⟩∧wr.cell? ⟨qb,qo,none⟩=some (.int .i64 e.time):=by
     rw[hq]at hqq;obtain⟨_,hx⟩|⟨b,off,cap,hx,_,_,_,hc⟩:=hqq
     ·simp at hx
     ·simp at hx;have:=(hc 0 (aR e) (by simp)).1
      exact⟨b,off,hx.1,by simpa [aR]using this⟩
    have n0:(((l.length+1:Nat):Int)==0)=false:=by simp;omega
    have i1:(0:Int)<((l.length+1:Nat):Int):=by omega
    clear h0 h1 h2 h3 h4 h5 h6 hkk hdd hrr hqq hroom
    by_cases hz:horizon<e.time
    ·have hF:RES=(st,rs,2):=by
      rw[HI.out.res,hm];simp[eB,eN,hq,hz]
     have HF:=aB hF;have dz:decide (horizon<e.time)=true:=by simpa using hz
     clear hF hq hm hql
     go_wp2_with fail
     go_ret3
     rw[HF.out];exact⟨_,L,R',rfl,HI.out.only,HI.out.ref,HI.out.sub,HI.out.lt,HI.out.all⟩
    ·have dz:decide (horizon<e.time)=false:=by simpa using hz
     have Hz:=aB hz;clear hz;have hD:Distinct (e::l):=hq▸HI.out.fit.q.dist;have hS:cE (e::l):=hq▸HI.out.fit.q.sorted;have HC:=aB (aAr rb ents ks draws st wr HI.out.ref he (fun b hb=>(HI.out.lt b hb).1) HI.out.fit.ok.len);have Hq:Hid (st.q=e::l∧bY e.number st.q=l∧(∀ x∈st.q,e.time≤x.time)):=by
      refine⟨hq,by rw[hq];exact vT hD,?_⟩
      intro x hx;rw[hq]at hx;rcases List.mem_cons.1 hx with rfl|hx
      ·exact Int.le_refl _
      ·have:=(qK hS hD x hx).2;omega
     have Hm:=aB hm;clear hq hm hql hD hS
     go_wp2_with fail
     refine HC.out.mono ?_;rintro e1 wc ⟨cb,gb,rfl,hbc,hc1,hc2,hg1,hg2,hRC⟩;have HRC:=aB hRC;have HBC:=aB hbc;have hzc:=hbc.size;have HSt:=aB (aD5 cb gb ents ks draws st e l wc hRC Hq.out.1 Hq.out.2.1 HI.out.fit.ok Hq.out.2.2 he hk8 Hcode.out hdl Hd.out);clear hRC hbc HC
     go_wp2_with fail
     refine HSt.out.mono ?_;obtain⟨st',told,why,hh⟩:∃ st' told why,aV ks draws e st=(st',told,why):=⟨_,_,_,rfl⟩;rw[hh];have Hh:=aB hh;clear hh HSt;rintro e2 ws ⟨hos,⟨hw0,ta,tc,R2,rfl,hrc2,hR2,hown2,hnap2⟩|⟨hw0,rfl⟩⟩
     ·simp only at hw0;subst hw0;simp only at hrc2 hown2 hnap2;have hzs:=hos.size;have hrm:Room ws rb 8:=by
       obtain⟨_,hroom⟩:=HI.out.ref;exact(hroom.below HBC.out (by omega)).only hos (by simp;omega)
      have HRef:Hid (RefK R' ws rb ents ks draws st.taken st.clock st.next (cY ents st) st.q):=(HI.out.ref.only (Only.new (S:=fun _=>False) HBC.out) (by simp) (by simp)).only hos (fun b hb=>by have:=(HI.out.lt b hb).1;simp;omega) (by simp;omega)
      have HAll:Hid (AllR ws w.heap.size (.slice va L.length vc) L rs):=(HI.out.all.only (Only.new (S:=fun _=>False) HBC.out) (by simp)).only hos (fun b hb=>by have:=(HI.out.all.lt b hb).2;simp;omega)
      obtain⟨cap,c6,hcap,_⟩:=hrc2.c6;obtain⟨qv2,c7,hqe⟩:=hrc2.que;obtain⟨qa2,qc2,rfl⟩:=hqe.form;have c3:=hrc2.c3;have c4:=hrc2.c4;have c5:=hrc2.c5;obtain⟨x3,y3⟩:∃ u,ws.cell? ⟨rb,3,none⟩=some u∧ws.frozen? ⟨rb,3,none⟩=false:=by obtain⟨u,hu⟩:=Option.isSome_iff_exists.1 (hrm 3 (by omega)).1;exact⟨u,hu,(hrm 3 (by omega)).2⟩
      obtain⟨x4,y4⟩:∃ u,ws.cell? ⟨rb,4,none⟩=some u∧ws.frozen? ⟨rb,4,none⟩=false:=by obtain⟨u,hu⟩:=Option.isSome_iff_exists.1 (hrm 4 (by omega)).1;exact⟨u,hu,(hrm 4 (by omega)).2⟩
      obtain⟨x5,y5⟩:∃ u,ws.cell? ⟨rb,5,none⟩=some u∧ws.frozen? ⟨rb,5,none⟩=false:=by obtain⟨u,hu⟩:=Option.isSome_iff_exists.1 (hrm 5 (by omega)).1;exact⟨u,hu,(hrm 5 (by omega)).2⟩
      obtain⟨x6,y6⟩:∃ u,ws.cell? ⟨rb,6,none⟩=some u∧ws.frozen? ⟨rb,6,none⟩=false:=by obtain⟨u,hu⟩:=Option.isSome_iff_exists.1 (hrm 6 (by omega)).1;exact⟨u,hu,(hrm 6 (by omega)).2⟩
      obtain⟨x7,y7⟩:∃ u,ws.cell? ⟨rb,7,none⟩=some u∧ws.frozen? ⟨rb,7,none⟩=false:=by obtain⟨u,hu⟩:=Option.isSome_iff_exists.1 (hrm 7 (by omega)).1;exact⟨u,hu,(hrm 7 (by omega)).2⟩
      have Hrc2:=aB hrc2;have HR2:=aB hR2;have Hown2:=aB hown2;have Hnap2:=aB hnap2;have HOs:=aB hos;have hne:cb≠rb:=by omega
      have hcl2:cb<ws.heap.size:=by omega
      have hrl2:rb<ws.heap.size:=by omega
      clear hrc2 hR2 hown2 hnap2 hos hrm hqe;unfold gZ;obtain⟨WS,hWS⟩:∃ WS,WS=qW ws rb (.int .i64 st'.taken) (.int .i64 st'.clock) (.int .i64 st'.next) (.slice (some ⟨gb,0,none⟩) (ents*4).toNat cap) (.slice qa2 st'.q.length qc2):=⟨_,rfl⟩
      obtain⟨WP,hWP⟩:∃ WP,WP=WS.alloc (.cells #[.int .i64 e.number,.int .i64 e.time,.int .i64 e.kind,.int .i64 e.entity,.slice ta told.length tc] 46):=⟨_,rfl⟩;have HWP:Hid (WP=(((((ws.setCell ⟨rb,3,none⟩ (.int .i64 st'.taken)).setCell ⟨rb,4,none⟩ (.int .i64 st'.clock)).setCell ⟨rb,5,none⟩ (.int .i64 st'.next)).setCell ⟨rb,6,none⟩ (.slice (some ⟨gb,0,none⟩) (ents*4).toNat cap)).setCell ⟨rb,7,none⟩ (.slice qa2 st'.q.length qc2)).alloc (.cells #[.int .i64 e.number,.int .i64 e.time,.int .i64 e.kind,.int .i64 e.entity,.slice ta told.length tc] 46)):=by show _=_;rw[hWP,hWS];rfl
      have hzS:WS.heap.size=ws.heap.size:=by rw[hWS];simp[qW,World.setCell]
      have hbS:Below WS.heap.size WS WP:=by rw[hWP];exact aE _ _
      have hzP:WP.heap.size=ws.heap.size+1:=by rw[hWP];simp[hzS]
      have hOS:Only (·=rb) ws WS:=by rw[hWS];exact wC _ _ _ _ _ _ _
      have hOP:Only (·=rb) ws WP:=hOS.trans (Only.new hbS)
      have hzs:=HOs.out.size;have hzc:=HBC.out.size;have hzr2:=HI.out.only.size;have hR2':∀ b,R2 b→(R' b∨wr.heap.size≤b)∧b<ws.heap.size∧b≠rb:=by
       intro b hb;have h2:=Hrc2.out.far b hb;rcases HR2.out b hb with (h1|h1)|h1
       ·exact⟨.inl h1,h2.1,(HI.out.lt b h1).2⟩
       ·exact⟨.inr h1.1,h2.1,by omega⟩
       ·exact⟨.inr (by omega),h2.1,by omega⟩
      have hTK:=HRef.out.take Hrc2.out ⟨by omega,by omega⟩ (fun b hb=>(HI.out.lt b hb).2) (fun b hb=>(hR2' b hb).2.2) (by omega) (cap:=cap) (qv:=.slice qa2 st'.q.length qc2) c7 hcap
      rw[←hWS]at hTK
      replace hTK:=hTK.only (Only.new (S:=fun _=>False) hbS) (by simp) (by simp)
      have hAP:AllR WP w.heap.size (.slice va L.length vc) L rs:=HAll.out.only hOP (fun b hb=>by have:=(HAll.out.lt b hb).1;omega)
      have hTP:WP.ownsRow w.heap.size 3 1 (.slice ta told.length tc) told.length (ints told):=kL (aN Hown2.out hOP (fun b hb=>by have:=(Hown2.out.lt b hb.symm).1;omega)) (by omega)
      have hav:∀ b,some b=(Value.slice va L.length vc).ownBlock→w.heap.size≤b∧b<wr.heap.size:=fun b hb=>⟨(HI.out.all.lt b (.inl hb)).1,(HI.out.all.lt b (.inl hb)).2⟩;have HTold:Hid (∀ b,some b=(Value.slice ta told.length tc).ownBlock→wc.heap.size≤b):=fun b hb=>(Hown2.out.lt b hb.symm).1;have HTK:=aB hTK;have HAP:=aB hAP;have HTP:=aB hTP;have Hav:=aB hav;have HR2':=aB hR2';have HOP:=aB hOP;have HsR:Hid (RowAt (WP.alloc (.cells #[.int .i64 e.number,.int .i64 e.time,.int .i64 e.kind,.int .i64 e.entity,.slice ta told.length tc] 46)) (ws.heap.size+1) 0 (RecC.cells ⟨e,ta,told.length,tc⟩)):=nC hzP (bD WP _ [_,_,_,_,_]);have hkl:L.length≤k:=by rw[HI.out.all.len,HI.out.len];exact Nat.le_refl _
      clear hTK hAP hTP hav hR2' hOP hbS hOS hWS hWP hcap
      go_wp2_with (at_builtin;rw[←HWP.out];refine aD rfl (.tmp 87) (.tmp 89) 39 rfl w.heap.size 46 (.agg #[.int .i64 0,.int .i64 0,.int .i64 0,.int .i64 0,.slice none 0 0]) 5 56 Tryz.underlying39 Tryz.infoR rfl (by omega) _ L.length (bA L) rfl (HAP.out.row.alloc _) _ 1 (RecC.cells ⟨e,ta,told.length,tc⟩) rfl (.inr (.inl ⟨ws.heap.size+1,0,1,rfl,HsR.out⟩)) rfl (xH [⟨e,ta,told.length,tc⟩]) (by omega) (by omega) (by simp;omega) ?_)
      intro v5 w5 xo xg xw;obtain⟨va5,vc5,rfl⟩:=aM xo.out;have hz5:=xg.out.size;simp only[World.size_alloc]at hz5;have hF5:=jP Hcode.out Hd.out HI.out.fit Hq.out.1;rw[Hh.out]at hF5;have hbA:=aE WP (.cells #[.int .i64 e.number,.int .i64 e.time,.int .i64 e.kind,.int .i64 e.entity,.slice ta told.length tc] 46);have HN:Hid (RrI R w w5 rb ents ks draws horizon n (k+1) RES (.slice va5 (L.length+1) vc5) st' (L++[⟨e,ta,told.length,tc⟩]) (rs++[⟨e,told⟩]) (fun b=>R' b∨R2 b∨b=gb)):=by
       refine⟨?_,?_,?_,?_,?_,?_,hF5.1,?_,?_⟩
       ·refine(((((HI.out.only.trans (Only.new HBC.out)).chain HOs.out (fun i hi hx=>by omega)).trans HOP.out).trans (Only.new hbA)).chain (aF xg.out) (fun i hi hx=>by have:=(Hav.out i hx).1;omega))
       ·refine(HTK.out.only (Only.new (S:=fun _=>False) hbA) (by simp) (by simp)).only (aF xg.out) ?_ (fun hc=>by have:=(Hav.out rb hc).1;omega)
        rintro b (hb|hb|hb) hc
        ·exact HI.out.nap b hc hb
        ·rcases (HR2'.out b hb).1 with h1|h1
         ·exact HI.out.nap b hc h1
         ·have:=(Hav.out b hc).2;omega
        ·have:=(Hav.out b hc).2;omega
       ·rintro b (hb|hb|hb)
        ·exact HI.out.sub b hb
        ·rcases (HR2'.out b hb).1 with h1|h1
         ·exact HI.out.sub b h1
         ·exact .inr (by omega)
        ·exact .inr (by omega)
       ·rintro b (hb|hb|hb)
        ·have:=HI.out.lt b hb;exact⟨by omega,this.2⟩
        ·have:=(HR2'.out b hb).2;exact⟨by omega,this.2⟩
        ·exact⟨by omega,by omega⟩
       ·refine(HAP.out.only (Only.new (S:=fun _=>False) hbA) (by simp)).snoc rfl rfl (aN HTP.out (Only.new (S:=fun _=>False) hbA) (by simp)) xg.out xo.out (by simpa [hzP]using xw.out) ?_
        intro b hb hc;have:=HTold.out b hb;have:=(Hav.out b hc).2;omega
       ·intro b hb hc;have hb5:some b=(Value.slice va L.length vc).ownBlock∨b=WP.heap.size+1:=by
         rcases xw.out with e5|e5
         ·exact .inl (by rw[←e5];exact hb)
         ·right;rw[e5]at hb;have:=Option.some.inj hb
          simpa [hzP]using this
        rcases hb5 with hb5|hb5
        ·rcases hc with hc|hc|hc
         ·exact HI.out.nap b hb5 hc
         ·rcases (HR2'.out b hc).1 with h1|h1
          ·exact HI.out.nap b hb5 h1
          ·have:=(Hav.out b hb5).2;omega
         ·have:=(Hav.out b hb5).2;omega
        ·rcases hc with hc|hc|hc
         ·have:=(HI.out.lt b hc).1;omega
         ·have:=(HR2'.out b hc).2.1;omega
         ·omega
       ·rw[HI.out.res,Hm.out,show n-(k+1)=m by have:=Hm.out;omega]
        simp[eB,eN,Hq.out.1,if_neg (show ¬horizon<e.time by have:=Hz.out;omega),Hh.out]
       ·simp[HI.out.len]
      clear xo xg xw hF5 hbA HsR HWP
      go_wp2_with fail
      go_roundw
      case rel=>exact⟨k+1,st',_,_,_,by omega,by go_num,HN.out⟩
      case measure=>simp[intOf];omega
     ·have HOs:=aB hos;clear hos;simp only at hw0;have hw1:(why != 0)=true:=by simpa using hw0
      have hF:RES=(st,rs,why):=by
       rw[HI.out.res,Hm.out];simp[eB,eN,Hq.out.1,if_neg (show ¬horizon<e.time by have:=Hz.out;omega),Hh.out,hw0]
      have HF:=aB hF;clear hF;have hzs:=HOs.out.size;have hzr2:=HI.out.only.size;unfold qY
      go_wp2_with fail
      go_ret3
      rw[HF.out];have hb0:Only (·=rb) wr (ws.alloc (.cells #[.int .i64 0,.int .i64 0,.int .i64 0,.int .i64 0,.slice none 0 0] 46)):=((Only.new HBC.out).chain HOs.out (fun i hi hx=>by omega)).trans (Only.new (aE _ _))
      have hb1:Below wr.heap.size wr (ws.alloc (.cells #[.int .i64 0,.int .i64 0,.int .i64 0,.int .i64 0,.slice none 0 0] 46)):=(((Only.new (S:=fun _=>False) HBC.out).chain HOs.out (fun i hi hx=>by omega)).trans (Only.new (aE _ _))).below (Nat.le_refl _) (fun _ _ h=>h)
      refine⟨_,L,R',rfl,HI.out.only.trans hb0,HI.out.ref.only (Only.new (S:=fun _=>False) hb1) (by simp) (by simp),HI.out.sub,fun b hb=>⟨?_,(HI.out.lt b hb).2⟩,HI.out.all.only (Only.new (S:=fun _=>False) hb1) (by simp)⟩
      have:=(HI.out.lt b hb).1;have:=hb1.size;omega
  ·have d1:decide ((k:Int)<(n:Int))=false:=by simp;omega
   have hkn:k=n:=by omega
   have hF:RES=(st,rs,0):=by
    rw[HI.out.res,hkn];simp[eB]
   have HF:=aB hF;clear hF hkn
   go_wp2_with fail
   go_ret3
   rw[HF.out];exact⟨_,L,R',rfl,HI.out.only,HI.out.ref,HI.out.sub,HI.out.lt,HI.out.all⟩
theorem Inv.ran{base:Nat}{wb:Nat}{lv:Value}{ps:List Pair}{bk:BookD}{i:Nat}{p:Pair}{W w2 w3:World}{ov2:Value}{s2:KS}{R':Nat→Prop}(h:Inv base W wb lv ps bk)(hi:ps[i]?=some p)(ho2:Only (bG p.kb p.qb p.mb p.ov) W w2)(hmv:Moved W p.ov ov2)(hk2:KerP p.kR p.kbs w2 p.kb p.qb p.mb ov2 p.ents p.ks p.draws s2)(ho3:Only (·=p.rb) w2 w3)
  (hr3:RefK R' w3 p.rb p.ents p.ks p.draws s2.taken s2.clock s2.next (cY p.ents s2) s2.q) (hR1:∀ b,R' b→p.rR b∨w2.heap.size≤b) (hR2:∀ b,R' b→b<w3.heap.size∧b≠p.rb) (hfit:Fit p.ents p.ks p.draws s2) (hz:nB p.ents s2) :
  Inv base w3 wb lv (ps.set i {p with ov:=ov2,s:=s2,rR:=R'}) bk∧Only p.has W w3∧(∀ b,W.heap.size≤b→b<w2.heap.size→¬bG p.kb p.qb p.mb ov2 b→∀ q∈ps.set i {p with ov:=ov2,s:=s2,rR:=R'},¬q.own b):=by
 have hpm:p∈ps:=List.mem_of_getElem? hi;have hO:=h.pairs p hpm;have hz2:=ho2.size;have hz3:=ho3.size;have ho23:Only p.has W w3:=(ho2.mono (S':=p.has) (fun x _ e=>.inl e)).trans (ho3.mono (fun x _ e=>.inr e));have hset:∀ x,bG p.kb p.qb p.mb ov2 x→bG p.kb p.qb p.mb p.ov x∨W.heap.size≤x:=by
  rintro x (hx|hx|hx|hx)
  ·exact .inl (.inl hx)
  ·exact .inl (.inr (.inl hx))
  ·exact .inl (.inr (.inr (.inl hx)))
  ·rcases hmv with e|⟨g,e,hg⟩
   ·exact .inl (.inr (.inr (.inr (hx.trans e))))
   ·rw[e]at hx;simp at hx;exact .inr (by omega)
 have hklt:=hk2.lt;have hsep':¬bG p.kb p.qb p.mb ov2 p.rb:=fun hc=>by
  rcases hset _ hc with hc|hc
  ·exact hO.sep hc
  ·have:=hO.rlt;omega
 have hup:Inv base w3 wb lv (ps.set i {p with ov:=ov2,s:=s2,rR:=R'}) bk:=by
  refine h.update hi ho23 rfl rfl ⟨?_,hr3,hfit,hz,hO.kind,hO.draw,by have:=hO.kbs;show p.kbs≤_;omega,by have:=hO.rlt;show p.rb<_;omega,?_,hO.sepk,hsep'⟩ ?_
  ·exact hk2.only ho3 (fun x hx hc=>hsep' (hc▸hx)) (fun x hx hc=>hO.sepk x hx hc)
  ·intro x hx;refine⟨(hR2 x hx).1,(hR2 x hx).2,fun hc=>?_⟩;rcases hR1 x hx with hx1|hx1
   ·rcases hset x hc with hc|hc
    ·exact(hO.sepr x hx1).2.2 hc
    ·have:=(hO.sepr x hx1).1;omega
   ·have:=hklt x hc;omega
  ·rintro x ((hx|hx)|hx|hx)
   ·rcases hset x hx with hx|hx
    ·exact .inl (.inl (.inl hx))
    ·exact .inr hx
   ·exact .inl (.inl (.inr hx))
   ·exact .inl (.inr (.inl hx))
   ·rcases hR1 x hx with hx|hx
    ·exact .inl (.inr (.inr hx))
    ·exact .inr (by omega)
 refine⟨hup,ho23,?_⟩;intro b hb1 hb2 hnk q hq hqo;obtain⟨j,hj,hjq⟩:=List.getElem_of_mem hq
 by_cases hji:j=i
 ·subst hji;simp at hjq;subst hjq;rcases hqo with (hx|hx)|hx|hx
  ·exact hnk hx
  ·have:=hO.rlt;change b=p.rb at hx;omega
  ·have:=hO.ker.rlt b hx;omega
  ·rcases hR1 b hx with hx|hx
   ·have:=(hO.sepr b hx).1;omega
   ·omega
 ·rw[List.getElem_set_ne (Ne.symm hji)]at hjq;have:=(h.pairs q (by rw[←hjq];exact List.getElem_mem _)).lt b hqo
  omega
structure BkLen(n:Nat)(k:BkD):Prop where
 il:k.il.length≤4000*n
 i4:k.il.length % 4=0
 rl:k.rl.length≤4*n
 r4:k.rl.length % 4=0
 bl:k.bl.length≤4*n
 b4:k.bl.length % 4=0
theorem BkLen.next{n:Nat}{k:BkD}(h:BkLen n k):BkLen (n+1) k:=⟨by have:=h.il;omega,h.i4,by have:=h.rl;omega,h.r4,by have:=h.bl;omega,h.b4⟩
theorem aCd{base:Nat}(wb:Nat)(lv:Value)(ps:List Pair)(k:BkD)(J:Nat)(i:Nat)(p:Pair)(a b c d ents:Int)(kv l rv qv sv:Value)(w:World)(h:Inv base w wb lv ps (aP k))(hi:ps[i]?=some p)(hG:BkLen J k)(hJ:J≤2000000) :
  Calls Tryz.prog 17 #[.pointer (some ⟨wb,0,none⟩),.agg #[.pointer (some ⟨p.kb,0,none⟩),.pointer (some ⟨p.rb,0,none⟩)],.agg #[.int .i64 4,.int .i64 a,.int .i64 b,.int .i64 c,.int .i64 d,.int .i64 ents,kv,l,rv,qv,sv]] w
   fun e w'=>e=.returned (.bool true)∧Only (sP wb ps (aP k)) w w'∧∃ ps' k',ps'.length=ps.length∧Inv base w' wb lv ps' (aP k')∧BkLen (J+1) k'∧k'.bl=k.bl:=by
 have hpm:p∈ps:=List.mem_of_getElem? hi;have hOK:=h.pairs p hpm;obtain⟨⟨he1,he8⟩,hk1,hk8⟩:=gK hOK.kind;have hsz:=h.lo;obtain⟨W,hW⟩:∃ W,W=(w.alloc (.cells #[.pointer (some ⟨p.kb,0,none⟩),.pointer (some ⟨p.rb,0,none⟩)] 52)).alloc (.cells #[.int .i64 4,.int .i64 a,.int .i64 b,.int .i64 c,.int .i64 d,.int .i64 ents,kv,l,rv,qv,sv] 41):=⟨_,rfl⟩;have hb:Below w.heap.size w W:=by rw[hW];exact((Below.refl _ _).alloc (Nat.le_refl _) _).alloc (by simp) _
 have hWs:W.heap.size=w.heap.size+1+1:=by rw[hW];simp
 have c1:W.cell? ⟨w.heap.size,1,none⟩=some (.pointer (some ⟨p.rb,0,none⟩)):=by rw[hW];simp[go_sem]
 have c2:W.cell? ⟨w.heap.size+1,2,none⟩=some (.int .i64 b):=by rw[hW];simp[go_sem]
 have c3:W.cell? ⟨w.heap.size+1,3,none⟩=some (.int .i64 c):=by rw[hW];simp[go_sem]
 have HI:=aB (h.below hb);have HO:=aB (HI.out.pairs p hpm);have hlt:=HO.out.lt;have Hlt:Hid (∀ b,p.own b→b<w.heap.size):=hOK.lt;have HB:=aB hb;have HG:=aB hG;have hp:=aB h.bkp;have hwl:=h.wlt;have g1:=hG.il;have g2:=hG.rl;clear hOK hb hG hlt
 by_cases hyes:0≤b∧b≤1000
 ·obtain⟨n,rfl⟩:∃ n:Nat,b=n:=⟨b.toNat,by omega⟩
  have hn:n≤1000:=by omega
  have hcode:=uO HO.out.kind;have hd:=aDt HO.out.draw;have hdl:=dW HO.out.draw;have hall:=zG hcode hd c n p.s HO.out.fit;have hrz:=wD hcode hd c n p.s HO.out.fit HO.out.regz;obtain⟨s2,rs,why,hF⟩:∃ s2 rs why,eB p.ks p.draws c n p.s=(s2,rs,why):=⟨_,_,_,rfl⟩;rw[hF]at hall hrz;simp only at hall hrz;have HAll:=aB hall;have HRz:=aB hrz;have HRun:=aB (aGd n c W HO.out.ker HO.out.fit.ok he8 hk8 hn HO.out.kbs hcode hd s2 rs why hF)
  have HRef:Hid (∀ w2:World,RefK p.rR w2 p.rb p.ents p.ks p.draws p.s.taken p.s.clock p.s.next (cY p.ents p.s) p.s.q→W.heap.size≤w2.heap.size→Calls Tryz.prog 47 #[.pointer (some ⟨p.rb,0,none⟩),.int .i64 n,.int .i64 c] w2 fun e w'=>∃ av L R',e=.returned (.tuple #[av,.int .i64 why,.int .i64 0])∧Only (·=p.rb) w2 w'∧RefK R' w' p.rb p.ents p.ks p.draws s2.taken s2.clock s2.next (cY p.ents s2) s2.q∧(∀ b,R' b→p.rR b∨w2.heap.size≤b)∧(∀ b,R' b→b<w'.heap.size∧b≠p.rb)∧AllR w' w2.heap.size av L rs):=by
   intro w2 hr hz;exact aEq p.rb p.ents p.ks p.draws p.s n c w2 hr (fun b hb=>⟨by have:=(HO.out.sepr b hb).1;omega,(HO.out.sepr b hb).2.1⟩) HO.out.fit ⟨he1,he8⟩ hk8 hn hcode hdl hd (s2,rs,why) hF.symm
  clear hall hrz hcode hd hF
  go_enter Tryz.func17,Tryz.ntmps17
  go_wp2_with fail
  rw[←hW];refine HRun.out.mono ?_;rintro e w2 ⟨lv1,ov2,L,rfl,ho2,hmv,hk2,hok2,hout⟩;have hnk:∀ x,w.heap.size≤x→¬bG p.kb p.qb p.mb p.ov x:=fun x hx hc=>by have:=Hlt.out x (.inl (.inl hc));omega
  have x1:=ho2.at c1 (hnk _ (by omega))
  have x2:=ho2.at c2 (hnk _ (by omega))
  have x3:=ho2.at c3 (hnk _ (by omega))
  have hz2:=ho2.size;have Href:Hid (RefK p.rR w2 p.rb p.ents p.ks p.draws p.s.taken p.s.clock p.s.next (cY p.ents p.s) p.s.q):=HO.out.ref.only ho2 (fun x hx hc=>(HO.out.sepr x hx).2.2 hc) HO.out.sep
  have hAll2:AllR w2 W.heap.size lv1 L rs:=⟨hout.len,hout.row,hout.rec_,fun x hx b hb=>by
   obtain⟨j,hj⟩:=List.getElem?_of_mem hx;exact(hout.tsep j x b hj hb).2⟩
  have HAll2:=aB hAll2;have Hout:=aB hout;have Hmv:=aB hmv;have Hk2:=aB hk2;have Ho2:=aB ho2;have HR2:=aB (HRef.out w2 Href.out hz2);obtain⟨la,lc,rfl⟩:=aM hout.row;have HLr:Hid (L.length=rs.length):=hout.len;clear hout hmv hk2 ho2 hAll2 hnk c1 c2 c3 hok2 HRef HRun
  go_wp2_with fail
  refine HR2.out.mono ?_;rintro e w3 ⟨av,L',R',rfl,ho3,hr3,hR1,hR2,hAll3⟩;obtain⟨ma,mc,rfl,hin⟩:=hAll3.recIn;have hz3:=ho3.size;obtain⟨hI3,hO3,hfar⟩:=HI.out.ran hi Ho2.out Hmv.out Hk2.out ho3 hr3 hR1 hR2 HAll.out.fit HRz.out;have hset:∀ b,gF (.slice la L.length lc) L b→(W.heap.size≤b∧b<w2.heap.size)∧¬bG p.kb p.qb p.mb ov2 b:=by
   intro b hb;refine⟨HAll2.out.lt b hb,?_⟩;rcases hb with hb|⟨x,hx,hb⟩
   ·exact Hout.out.lsep b hb
   ·obtain⟨j,hj⟩:=List.getElem?_of_mem hx;exact(Hout.out.tsep j x b hj hb).1
  have hAll23:AllR w3 W.heap.size (.slice la L.length lc) L rs:=HAll2.out.only ho3 (fun b hb hc=>by have:=(hset b hb).1.1;have:=HO.out.rlt;omega)
  have hn2:L.length≤1000:=by have:=HAll.out.len;have:=HLr.out;omega
  have HRec:=aB (jF wb k la ma L.length lc mc L rs 0 w3 hI3.bkp hAll23 (fun j k x y b hx hy hb hb'=>Hout.out.apart j k x y b hx hy hb hb') hin (by omega) hn2 (fun r hr=>by have:=(HAll.out.each r hr).2.2.2;omega) HG.out.i4 HG.out.r4 (by omega) (by omega) (fun b hb=>⟨fun hc=>by have h1:=hp.out.ok.lt b hc;have h2:=(hset b hb).1.1;omega,fun hc=>by have h2:=(hset b hb).1.1;omega⟩) (.inl rfl))
  have HI3:=aB hI3;have HO3:=aB hO3;have Hfar:=aB hfar;have Hset:=aB hset;rw[←HLr.out];clear hI3 hO3 hfar hset hAll23 hr3 hR1 hR2 hAll3 hin ho3 HR2
  go_wp2_with fail
  refine HRec.out.mono ?_;rintro e w4 ⟨rfl,k',hst,q1,q2,q3,q4⟩;have hI4:=HI3.out.bookStep hst (fun b hb=>by
   obtain⟨⟨s1,s2⟩,s3⟩:=Hset.out b hb;refine⟨by omega,by omega,by omega,fun hc=>?_,Hfar.out b s1 s2 s3⟩
   have:=(h.owns.lt b hc.symm).2;omega)
  have HI4:=aB hI4;have HBB:Hid (Only (sP wb ps (aP k)) w w4):=by
   have o1:Only (sP wb ps (aP k)) w w3:=(Only.new HB.out).trans (HO3.out.mono (fun x _ hx=>.inl ⟨p,hpm,hx⟩));refine o1.chain hst.only ?_;rintro b hb (hc|hc|hc)
   ·exact .inr (.inl hc)
   ·exact .inr (.inr hc)
   ·have:=(Hset.out b hc).1.1;omega
  have HLen:Hid (BkLen (J+1) k'):=⟨by have:=HG.out.il;omega,q2,by have:=HG.out.rl;omega,by have:=HG.out.r4;omega,by rw[q4];have:=HG.out.bl;omega,by rw[q4];exact HG.out.b4⟩
  have Hq4:=aB q4;clear hI4 hst q1 q2 q3 q4 HRec
  go_wp2
  go_ret;exact⟨by simp,HBB.out,_,k',by simp,HI4.out,HLen.out,Hq4.out⟩
 ·have Hno:=aB hyes;clear hyes;have HRec:=aB (jF wb k none none 0 0 0 [] [] 1 W HI.out.bkp (AllR.nil W W.heap.size) (fun j k x y b hx=>by simp at hx) (fun i r hr=>by simp at hr) (Nat.le_refl _) (by omega) (by simp) HG.out.i4 HG.out.r4 (by omega) (by omega) (fun b hb=>by rcases hb with hb|⟨x,hx,_⟩;simp[Value.ownBlock]at hb;simp at hx) (.inr ⟨rfl,rfl,rfl⟩))
  go_enter Tryz.func17,Tryz.ntmps17
  go_wp2_with fail
  rw[←hW];have HW:=aB hW;clear hW;refine(aFt p.kb b c W Hno.out).mono ?_;rintro e w2 ⟨rfl,hw2⟩;rw[hw2];clear hw2 w2
  go_wp2_with fail
  refine(aEp p.rb b c W Hno.out).mono ?_;rintro e w3 ⟨rfl,hw3⟩;rw[hw3];clear hw3 w3
  go_wp2_with fail
  refine HRec.out.mono ?_;rintro e w4 ⟨rfl,k',hst,q1,q2,q3,q4⟩;have hno:∀ b,¬gF (.slice none 0 0) [] b:=by
   intro b hb;rcases hb with hb|⟨x,hx,_⟩
   ·simp[Value.ownBlock]at hb
   ·simp at hx
  have HI4:=aB (HI.out.bookStep hst (fun b hb=>absurd hb (hno b)));have HBB:Hid (Only (sP wb ps (aP k)) w w4):=by
   refine(Only.new HB.out).chain hst.only ?_;rintro b hb (hc|hc|hc)
   ·exact .inr (.inl hc)
   ·exact .inr (.inr hc)
   ·exact absurd hc (hno b)
  have HLen:Hid (BkLen (J+1) k'):=⟨by have:=HG.out.il;omega,q2,by have:=HG.out.rl;omega,by have:=HG.out.r4;omega,by rw[q4];have:=HG.out.bl;omega,by rw[q4];exact HG.out.b4⟩
  have Hq4:=aB q4;clear hst q1 q2 q3 q4 HRec hno
  go_wp2
  go_ret;exact⟨by simp,HBB.out,_,k',rfl,HI4.out,HLen.out,Hq4.out⟩
end Go.Proofs.YtndlmgocldckfaaGreat
