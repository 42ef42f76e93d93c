import Derived.Test.YtndlmgocldckfaaGreatG20
namespace Go.Proofs.YtndlmgocldckfaaGreat
open Go.RowKit
set_option linter.unusedVariables false
set_option linter.unusedSimpArgs false
set_option maxRecDepth 100000
set_option maxHeartbeats 4000000
structure KrI(wb:Nat)(k:BkD)(av:Value)(L:List RecC)(rs:List Rec)(Z:Nat)(w:World)(i:Nat)(kk:BkD)(wr:World):Prop where
 st:BkStep wb k kk (gF av L) w wr
 il:kk.il.length≤k.il.length+4*i∧kk.il.length % 4=0∧kk.rl=k.rl∧kk.bl=k.bl
 row:wr.ownsRow Z 46 5 av L.length (bA L)
 rsep:∀ b,some b=av.ownBlock→¬kk.set b∧b≠wb
 todo:∀ (j:Nat) x r,i≤j→L[j]?=some x→rs[j]?=some r→wr.ownsRow Z 3 1 (.slice x.sa x.n x.sc) x.n (ints r.told)∧x.n=r.told.length∧∀ b,some b=(Value.slice x.sa x.n x.sc).ownBlock→¬kk.set b∧b≠wb∧some b≠av.ownBlock
theorem KrI.skip{wb:Nat}{k:BkD}{av:Value}{L:List RecC}{rs:List Rec}{Z:Nat}{w:World}{i:Nat}{kk:BkD}{wr:World}(h:KrI wb k av L rs Z w i kk wr):KrI wb k av L rs Z w (i+1) kk wr:=
 ⟨h.st,⟨by have:=h.il.1;omega,h.il.2⟩,h.row,h.rsep,fun j x r hj hx hr=>h.todo j x r (by omega) hx hr⟩
theorem KrI.next{wb:Nat}{k:BkD}{av:Value}{L:List RecC}{rs:List Rec}{Z:Nat}{w:World}{i:Nat}{kk kk':BkD}{wr wr':World}(h:KrI wb k av L rs Z w i kk wr)(hA:ApartR L){x:RecC}(hx:L[i]?=some x){r:Rec}(hr:rs[i]?=some r)
  (hs:BkStep wb kk kk' (fun b=>some b=(Value.slice x.sa x.n x.sc).ownBlock) wr wr') (hl:kk'.il.length=kk.il.length+4) (hrl:kk'.rl=kk.rl) (hbl:kk'.bl=kk.bl):KrI wb k av L rs Z w (i+1) kk' wr':=by
 have hto:=h.todo i x r (Nat.le_refl _) hx hr;have hkeep:∀ b,b<wr.heap.size→¬kk.set b→¬some b=(Value.slice x.sa x.n x.sc).ownBlock→¬kk'.set b:=by
  intro b hb h1 h2 hc;rcases hs.sub b hc with e|e|e
  ·exact h1 e
  ·exact h2 e
  ·omega
 have hrs:∀ b,some b=av.ownBlock→¬some b=(Value.slice x.sa x.n x.sc).ownBlock:=fun b hb e=>(hto.2.2 b e).2.2 hb;refine⟨h.st.trans (hs.mono (fun b hb=>.inr ⟨x,List.mem_of_getElem? hx,hb⟩)),⟨by have:=h.il.1;omega,by have:=h.il.2.1;omega,hrl.trans h.il.2.2.1,hbl.trans h.il.2.2.2⟩,?_,?_,?_⟩
 ·refine aN h.row hs.only ?_;rintro b hb (e|e|e)
  ·exact(h.rsep b hb).2 e
  ·exact(h.rsep b hb).1 e
  ·exact hrs b hb e
 ·intro b hb;exact⟨hkeep b (h.row.lt b hb.symm).2 (h.rsep b hb).1 (hrs b hb),(h.rsep b hb).2⟩
 ·intro j y q hj hy hq;obtain⟨t1,t2,t3⟩:=h.todo j y q (by omega) hy hq
  have hne:∀ b,some b=(Value.slice y.sa y.n y.sc).ownBlock→¬some b=(Value.slice x.sa x.n x.sc).ownBlock:=fun b hb e=>by have:=hA j i y x b hy hx hb e;omega
  refine⟨aN t1 hs.only ?_,t2,fun b hb=>⟨hkeep b (t1.lt b hb.symm).2 (t3 b hb).1 (hne b hb),(t3 b hb).2⟩⟩;rintro b hb (e|e|e)
  ·exact(t3 b hb).2.1 e
  ·exact(t3 b hb).1 e
  ·exact hne b hb e
def aDk(w:World)(g o:Nat)(a b c d e:Value):World:=((((w.setCell ⟨g,o,none⟩ a).setCell ⟨g,o+1,none⟩ b).setCell ⟨g,o+2,none⟩ c).setCell ⟨g,o+3,none⟩ d).setCell ⟨g,o+4,none⟩ e
theorem MarkI.next5{w wr:World}{Z:Nat}{e:TypeId}{g c n j:Nat}{v0 v1 v2 v3 v4:Value}(h:MarkI w wr Z e (.slice (some ⟨g,0,none⟩) n c) n [v0,v1,v2,v3,v4] j)(hj:j<n):MarkI w (aDk wr g (j*5) v0 v1 v2 v3 v4) Z e (.slice (some ⟨g,0,none⟩) n c) n [v0,v1,v2,v3,v4] (j+1):=by
 obtain⟨ys,hy⟩:=h.own;obtain⟨g',hg',hat⟩:=oC hy (by omega)
 simp at hg';subst hg';simp only[List.length_cons,List.length_nil]at hat;have hroom:∀ i,i<5→(wr.cell? ⟨g,j*5+i,none⟩).isSome=true:=by
  intro i hi;obtain⟨⟨u,hu⟩,_⟩:=hat (j*5+i) (by omega)
  rw[hu];rfl
 refine⟨((((h.only.setCell (p:=⟨g,j*5,none⟩) rfl _).setCell (p:=⟨g,j*5+1,none⟩) rfl _).setCell (p:=⟨g,j*5+2,none⟩) rfl _).setCell (p:=⟨g,j*5+3,none⟩) rfl _).setCell (p:=⟨g,j*5+4,none⟩) rfl _,?_,?_⟩
 ·obtain⟨y1,h1⟩:=kE hy (j*5) v0;obtain⟨y2,h2⟩:=kE h1 (j*5+1) v1;obtain⟨y3,h3⟩:=kE h2 (j*5+2) v2;obtain⟨y4,h4⟩:=kE h3 (j*5+3) v3;exact kE h4 (j*5+4) v4
 ·intro g' hg';simp[Value.ownBlock]at hg';subst hg';intro i u hu;rw[fF]at hu;rw[Nat.zero_add]
  by_cases hi:i<j*5
  ·rw[List.getElem?_append_left (by rw[bS];simpa using hi)]at hu
   have:=h.done g rfl i u hu;rw[Nat.zero_add]at this;unfold aDk;rw[World.cell?_setCell_other _ _ _ _ (by simp<;>omega),World.cell?_setCell_other _ _ _ _ (by simp<;>omega),World.cell?_setCell_other _ _ _ _ (by simp<;>omega),World.cell?_setCell_other _ _ _ _ (by simp<;>omega),World.cell?_setCell_other _ _ _ _ (by simp<;>omega)]
   exact this
  ·rw[List.getElem?_append_right (by rw[bS];simp only[List.length_cons,List.length_nil];omega),bS]at hu
   simp only[List.length_cons,List.length_nil,Nat.zero_add]at hu;have hi2:=(List.getElem?_eq_some_iff.1 hu).1;simp[aZ]at hi2;obtain⟨d,hd⟩:∃ d,i=j*5+d:=⟨i-j*5,by omega⟩
   subst hd;rw[show j*5+d-j*(1+1+1+1+1)=d by omega]at hu
   have hd5:d=0∨d=1∨d=2∨d=3∨d=4:=by omega
   unfold aDk;rcases hd5 with rfl|rfl|rfl|rfl|rfl<;>simp[aZ]at hu<;>subst hu
   ·rw[World.cell?_setCell_other _ _ _ _ (by simp),World.cell?_setCell_other _ _ _ _ (by simp),World.cell?_setCell_other _ _ _ _ (by simp),World.cell?_setCell_other _ _ _ _ (by simp)]
    exact World.cell?_setCell_same' _ _ _ (hroom 0 (by omega))
   ·rw[World.cell?_setCell_other _ _ _ _ (by simp),World.cell?_setCell_other _ _ _ _ (by simp),World.cell?_setCell_other _ _ _ _ (by simp)]
    exact World.cell?_setCell_same' _ _ _ (by rw[World.cell?_setCell_other _ _ _ _ (by simp)];exact hroom 1 (by omega))
   ·rw[World.cell?_setCell_other _ _ _ _ (by simp),World.cell?_setCell_other _ _ _ _ (by simp)]
    exact World.cell?_setCell_same' _ _ _ (by rw[World.cell?_setCell_other _ _ _ _ (by simp),World.cell?_setCell_other _ _ _ _ (by simp)];exact hroom 2 (by omega))
   ·rw[World.cell?_setCell_other _ _ _ _ (by simp)]
    exact World.cell?_setCell_same' _ _ _ (by rw[World.cell?_setCell_other _ _ _ _ (by simp),World.cell?_setCell_other _ _ _ _ (by simp),World.cell?_setCell_other _ _ _ _ (by simp)];exact hroom 3 (by omega))
   ·exact World.cell?_setCell_same' _ _ _ (by rw[World.cell?_setCell_other _ _ _ _ (by simp),World.cell?_setCell_other _ _ _ _ (by simp),World.cell?_setCell_other _ _ _ _ (by simp),World.cell?_setCell_other _ _ _ _ (by simp)];exact hroom 4 (by omega))
theorem oW{Z:Nat}(wb:Nat)(k:BkD)(la:Option Addr)(n lc:Nat)(L:List RecC)(rs:List Rec)(w:World)(h:BkP w wb k)(hl:AllR w Z (.slice la n lc) L rs)(hA:ApartR L)(hZ:Z≤w.heap.size)(hn:n≤1000)(ht:∀ r∈rs,r.told.length≤1000000)(h4:k.il.length % 4=0)(h4r:k.rl.length % 4=0)(hlen:k.il.length+4*n≤1099511627776)(hlenr:k.rl.length≤1099511627776)(hls:∀ b,gF (.slice la n lc) L b→¬k.set b∧b≠wb) :
  Calls Tryz.prog 73 #[.pointer (some ⟨wb,1,none⟩),.slice la n lc] w fun e w'=>e=.returned (.tuple #[])∧∃ k',BkStep wb k k' (gF (.slice la n lc) L) w w'∧k'.il.length≤k.il.length+4*n∧k'.il.length % 4=0∧k'.rl.length=k.rl.length+4∧k'.bl=k.bl:=by
 have hnl:L.length=n:=by
  obtain⟨_,_,hc⟩:=aM hl.row;simp only[Value.slice.injEq]at hc;exact hc.2.1.symm
 have HS:Hid (KrI wb k (.slice la n lc) L rs Z w 0 k w):=by
  refine⟨BkStep.refl h,⟨by omega,h4,rfl,rfl⟩,hl.row,fun b hb=>hls b (.inl hb),fun j x r _ hx hr=>?_⟩
  obtain⟨e1,e2,e3⟩:=hl.rec_ j x r hx hr;refine⟨by rw[e2]at e3 ⊢;exact e3,e2,fun b hb=>?_⟩
  have:=hls b (.inr ⟨x,List.mem_of_getElem? hx,hb⟩);exact⟨this.1,this.2,hl.tsep x (List.mem_of_getElem? hx) b hb⟩
 have HA:=aB hA;have Ht:=aB ht;have Hlr:Hid (L.length=rs.length):=hl.len;have Hnl:=aB hnl;have Hls:=aB hls;clear h hl hA ht hnl hls
 go_enter Tryz.func73,Tryz.ntmps73
 go_wp2_with fail
 go_loopw [4] (fun i wr=>∃ (j:Nat) (kk:BkD),j≤n∧i=.int .i64 j∧Hid (KrI wb k (.slice la n lc) L rs Z w j kk wr)) (fun i _=>n-(intOf i).toNat)
 case atStart=>exact⟨0,k,Nat.zero_le _,rfl,HS.out⟩
 case round=>
  obtain⟨j,kk,hj,rfl,hI⟩:=hrel;clear HS;rename World=>wr
  by_cases hlt:j<n
  ·have d1:decide ((j:Int)<(n:Int))=true:=by simp;omega
   have hjj:(j:Int)<(n:Int):=by omega
   have hw:IntKind.i64.wrap ((j:Int)+1)=(j:Int)+1:=by rw[IntKind.wrap_i64];omega
   have hjL:j<L.length:=by have:=Hnl.out;omega
   have hjr:j<rs.length:=by have:=Hlr.out;omega
   obtain⟨x,hx⟩:∃ x,L[j]?=some x:=⟨L[j],List.getElem?_eq_getElem hjL⟩;obtain⟨r,hr⟩:∃ r,rs[j]?=some r:=⟨rs[j],List.getElem?_eq_getElem hjr⟩;have hrow:=hI.out.row;rw[Hnl.out]at hrow;obtain⟨g,rfl,hat⟩:=oC hrow (by omega)
   have cT:wr.cell? ⟨g,j*5+4,none⟩=some (.slice x.sa x.n x.sc):=by
    have:=hrow.cells (g:=g) rfl (j*5+4) (.slice x.sa x.n x.sc) (by rw[lC L j 4 (by omega),hx];rfl)
    rwa [Addr.add_lit,Nat.zero_add]at this
   obtain⟨t1,t2,t3⟩:=hI.out.todo j x r (Nat.le_refl _) hx hr;have hxn:x.n≤1000000:=by rw[t2];exact Ht.out r (List.mem_of_getElem? hr)
   have HX:=aB hx;have HR:=aB hr;have T1:=aB t1;have T3:=aB t3;clear hat hrow hx hr t1 t2 t3
   by_cases h0:x.n=0
   ·have d2:decide ((0:Int)<(x.n:Int))=false:=by simp;omega
    go_wp2_with fail
    go_roundw
    case rel=>exact⟨j+1,kk,by omega,by go_num,hI.out.skip⟩
    case measure=>simp[intOf];omega
   ·have d2:decide ((0:Int)<(x.n:Int))=true:=by simp;omega
    have hz:=hI.out.st.only.size;have HK:=aB (uF wb kk x.sa x.n x.sc _ wr hI.out.st.p T1.out (by omega) hxn hI.out.il.2.1 (by have:=hI.out.il.1;omega) (fun b hb=>⟨(T3.out b hb).1,(T3.out b hb).2.1⟩))
    go_wp2_with fail
    refine HK.out.mono ?_;rintro e w2 ⟨rfl,kk',q1,q2,q3,q4⟩;have HN:=aB (hI.out.next HA.out HX.out HR.out q1 q2 q3 q4)
    clear q1 q2 q3 q4 HK
    go_wp2_with fail
    go_roundw
    case rel=>exact⟨j+1,kk',by omega,by go_num,HN.out⟩
    case measure=>simp[intOf];omega
  ·have d1:decide ((j:Int)<(n:Int))=false:=by simp;omega
   have hjn:j=n:=by omega
   subst hjn;have hkr:kk.rl.length≤1099511627776:=by have:=congrArg List.length hI.out.il.2.2.1;omega
   have h4k:kk.rl.length % 4=0:=by have:=congrArg List.length hI.out.il.2.2.1;omega
   have cR:=hI.out.st.p.c3;obtain⟨ra,rc,hrv⟩:=aM hI.out.st.p.ok.rown;rw[hrv]at cR;clear hrv;obtain⟨m,hm⟩:∃ m:Int,m=-1000-((kk.rl.length / 4:Nat):Int):=⟨_,rfl⟩;have Hm:=aB hm;clear hm;obtain⟨wo,hwo⟩:∃ wo,wo=wr:=⟨_,rfl⟩;subst hwo
   go_wp2_with fail
   have hme:(-1000-(kk.rl.length:Int) / 4)=m:=by rw[Hm.out];omega
   rw[hme];clear hme;obtain⟨W0,hW0⟩:∃ W0,W0=wo.alloc (.cells #[.int .i64 m,.int .i64 0,.int .i64 0,.int .i64 0,.slice none 0 0] 46):=⟨_,rfl⟩;have HW0:=aB hW0;have hzo:=hI.out.st.only.size;have hzW:W0.heap.size=wo.heap.size+1:=by rw[hW0];simp
   have HM00:Hid (RowAt W0 wo.heap.size 0 [.int .i64 m,.int .i64 0,.int .i64 0,.int .i64 0,.slice none 0 0]):=by show RowAt _ _ _ _;rw[hW0];exact bD wo _ [_,_,_,_,_]
   obtain⟨mb,hmb⟩:∃ mb,mb=wo.heap.size:=⟨_,rfl⟩;have Hml:Hid (¬some mb=(Value.slice la j lc).ownBlock):=by show ¬_;intro e;have:=(hI.out.row.lt mb e.symm).2;omega
   rw[←hW0,←hmb];rw[←hmb]at HM00;clear hmb;have HO0:Hid (W0.ownsRow Z 46 5 (.slice la j lc) j (bA L)):=by
    have q:=hI.out.row;rw[Hnl.out]at q;show World.ownsRow _ _ _ _ _ _ _;rw[hW0];exact q.alloc _
   have H:Hid (BkP W0 wb kk):=by show BkP _ _ _;rw[hW0];exact hI.out.st.p.below (aE _ _)
   have HI:=hI;clear hI hW0 cR
   go_loopw [6] (fun i wr=>∃ (q:Nat),q≤j∧i=.int .i64 q∧Hid (MarkI W0 wr Z 46 (.slice la j lc) j [.int .i64 m,.int .i64 0,.int .i64 0,.int .i64 0,.slice none 0 0] q)) (fun i _=>j-(intOf i).toNat)
   case atStart=>exact⟨0,Nat.zero_le _,rfl,Only.refl _ _,⟨_,HO0.out⟩,fun g _ i u hu=>by simp[aZ]at hu⟩
   case round=>
    obtain⟨q,hq,rfl,hJ⟩:=hrel;rename World=>wr;have HM0:Hid (RowAt wr mb 0 [.int .i64 m,.int .i64 0,.int .i64 0,.int .i64 0,.slice none 0 0]):=HM00.out.only hJ.out.only Hml.out;have p00:=HM0.out 0 _ rfl;have p01:=HM0.out 1 _ rfl;have p02:=HM0.out 2 _ rfl;have p03:=HM0.out 3 _ rfl;have p04:=HM0.out 4 _ rfl;simp only[Nat.zero_add]at p00 p01 p02 p03 p04
    by_cases hlt2:q<j
    ·have d2:decide ((q:Int)<(j:Int))=true:=by simp;omega
     have hqq:(q:Int)<(j:Int):=by omega
     have hw:IntKind.i64.wrap ((q:Int)+1)=(q:Int)+1:=by rw[IntKind.wrap_i64];omega
     obtain⟨ys,hy⟩:=hJ.out.own;obtain⟨g,rfl,hat⟩:=oC hy (by omega)
     simp only[List.length_cons,List.length_nil]at hat;obtain⟨⟨y0,s0⟩,f0⟩:=hat (q*5) (by omega)
     obtain⟨⟨y1,s1⟩,f1⟩:=hat (q*5+1) (by omega)
     obtain⟨⟨y2,s2⟩,f2⟩:=hat (q*5+2) (by omega)
     obtain⟨⟨y3,s3⟩,f3⟩:=hat (q*5+3) (by omega)
     obtain⟨⟨y4,s4⟩,f4⟩:=hat (q*5+4) (by omega)
     clear hat hy
     go_wp2_with fail
     go_roundw
     case rel=>exact⟨q+1,by omega,by go_num,hJ.out.next5 hlt2⟩
     case measure=>simp[intOf];omega
    have d2:decide ((q:Int)<(j:Int))=false:=by simp;omega
    have hqn:q=j:=by omega
    subst hqn;have HO:=aB hJ.out.out;have HOn:=aB hJ.out.only;have hzr:=HOn.out.size;have HMK:Hid (∀ u∈[Value.int .i64 m,.int .i64 0,.int .i64 0,.int .i64 0,.slice none 0 0],u.oneCell'=true):=by intro u hu;simp at hu;rcases hu with rfl|rfl|rfl<;>rfl
    have hls:∀ b,some b=(Value.slice la q lc).ownBlock→¬kk.set b∧b≠wb:=fun b hb=>HI.out.rsep b hb;obtain⟨K,hK⟩:∃ K:BkD,K=kk:=⟨_,rfl⟩;have HK:=aB hK;clear hJ hK HO0 HM00
    go_wp2_with (at_builtin;refine cH rfl (.tmp 48) (.tmp 50) 39 rfl Z 46 (.agg #[.int .i64 0,.int .i64 0,.int .i64 0,.int .i64 0,.slice none 0 0]) 5 56 Tryz.underlying39 Tryz.infoR rfl (by omega) _ q (aZ q [.int .i64 m,.int .i64 0,.int .i64 0,.int .i64 0,.slice none 0 0]) rfl (HO.out.alloc _) wr.heap.size 1 1 (by omega) (aZ 1 [.int .i64 m,.int .i64 0,.int .i64 0,.int .i64 0,.slice none 0 0]) rfl (bD wr _ (aZ 1 [.int .i64 m,.int .i64 0,.int .i64 0,.int .i64 0,.slice none 0 0])) (by rw[bS];rfl) (kD HMK.out) (by omega) (by omega) (by simp;omega) ?_)
    intro v1 w1 hown1 hg1 hk1;rw[←fF]at hown1;obtain⟨va1,vc1,rfl⟩:=aM hown1.out;have hz1:=hg1.out.size;simp only[World.size_alloc]at hz1;have hm1:Hid (RowAt w1 mb 0 [.int .i64 m,.int .i64 0,.int .i64 0,.int .i64 0,.slice none 0 0]):=(HM0.out.only (Only.new (S:=fun b=>some b=(Value.slice la q lc).ownBlock) (aE _ _)) Hml.out).only (aF hg1.out) Hml.out;have p10:=hm1.out 0 _ rfl;have p11:=hm1.out 1 _ rfl;have p12:=hm1.out 2 _ rfl;have p13:=hm1.out 3 _ rfl;have p14:=hm1.out 4 _ rfl;simp only[Nat.zero_add]at p10 p11 p12 p13 p14
    go_wp2_with (at_builtin;refine cH rfl (.tmp 52) (.tmp 55) 39 rfl Z 46 (.agg #[.int .i64 0,.int .i64 0,.int .i64 0,.int .i64 0,.slice none 0 0]) 5 56 Tryz.underlying39 Tryz.infoR rfl (by omega) _ q (aZ q [.int .i64 m,.int .i64 0,.int .i64 0,.int .i64 0,.slice none 0 0]) rfl (hk1.out.1.alloc _) w1.heap.size 2 2 (by omega) (aZ 2 [.int .i64 m,.int .i64 0,.int .i64 0,.int .i64 0,.slice none 0 0]) rfl (bD w1 _ (aZ 2 [.int .i64 m,.int .i64 0,.int .i64 0,.int .i64 0,.slice none 0 0])) (by rw[bS];rfl) (kD HMK.out) (by omega) (by omega) (by simp;omega) ?_)
    intro v2 w2 hown2 hg2 hk2;rw[←fF]at hown2;obtain⟨va2,vc2,rfl⟩:=aM hown2.out;have hz2:=hg2.out.size;simp only[World.size_alloc]at hz2;have hm2:Hid (RowAt w2 mb 0 [.int .i64 m,.int .i64 0,.int .i64 0,.int .i64 0,.slice none 0 0]):=(hm1.out.only (Only.new (S:=fun b=>some b=(Value.slice la q lc).ownBlock) (aE _ _)) Hml.out).only (aF hg2.out) Hml.out;have p20:=hm2.out 0 _ rfl;have p21:=hm2.out 1 _ rfl;have p22:=hm2.out 2 _ rfl;have p23:=hm2.out 3 _ rfl;have p24:=hm2.out 4 _ rfl;simp only[Nat.zero_add]at p20 p21 p22 p23 p24
    go_wp2_with (at_builtin;refine cH rfl (.tmp 57) (.tmp 61) 39 rfl Z 46 (.agg #[.int .i64 0,.int .i64 0,.int .i64 0,.int .i64 0,.slice none 0 0]) 5 56 Tryz.underlying39 Tryz.infoR rfl (by omega) _ q (aZ q [.int .i64 m,.int .i64 0,.int .i64 0,.int .i64 0,.slice none 0 0]) rfl (hk2.out.1.alloc _) w2.heap.size 3 3 (by omega) (aZ 3 [.int .i64 m,.int .i64 0,.int .i64 0,.int .i64 0,.slice none 0 0]) rfl (bD w2 _ (aZ 3 [.int .i64 m,.int .i64 0,.int .i64 0,.int .i64 0,.slice none 0 0])) (by rw[bS];rfl) (kD HMK.out) (by omega) (by omega) (by simp;omega) ?_)
    intro v3 w3 hown3 hg3 hk3;rw[←fF]at hown3;obtain⟨va3,vc3,rfl⟩:=aM hown3.out;have hz3:=hg3.out.size;simp only[World.size_alloc]at hz3;have hm3:Hid (RowAt w3 mb 0 [.int .i64 m,.int .i64 0,.int .i64 0,.int .i64 0,.slice none 0 0]):=(hm2.out.only (Only.new (S:=fun b=>some b=(Value.slice la q lc).ownBlock) (aE _ _)) Hml.out).only (aF hg3.out) Hml.out;have p30:=hm3.out 0 _ rfl;have p31:=hm3.out 1 _ rfl;have p32:=hm3.out 2 _ rfl;have p33:=hm3.out 3 _ rfl;have p34:=hm3.out 4 _ rfl;simp only[Nat.zero_add]at p30 p31 p32 p33 p34;have HP0:=aB (nL H.out (by omega) hls HOn.out (pR (x:=[.int .i64 m,.int .i64 0,.int .i64 0,.int .i64 0,.slice none 0 0]) HO.out (aE _ _) hown1.out hg1.out hk1.out (by simp) (aE _ _) hown2.out hg2.out hk2.out (by simp) (aE _ _) hown3.out hg3.out hk3.out (by simp)))
    clear hown1 hg1 hk1 hown2 hg2 hk2 hown3 hg3 hk3 HO HOn H hls;have hL0:Hid (kk.rl.length=K.rl.length+0∧kk.il=K.il∧kk.bl=K.bl):=by rw[HK.out];exact⟨rfl,rfl,rfl⟩
    have e0:=HP0.out.st.p.c3;have hw0:=HP0.out.st.p.lt;have hmk0:Hid (lR kk.rl.length=[.int .i64 m,.int .i64 0,.int .i64 0,.int .i64 0,.slice none 0 0]):=by show _=_;rw[Hm.out];rfl
    have hlen0:kk.rl.length≤1099511627776+0:=by have:=hL0.out.1;rw[HK.out]at this;omega
    go_wp2_with (at_builtin;refine aD rfl (.tmp 67) (.tmp 69) 31 rfl 0 39 (.slice none 0 0) 1 24 Tryz.underlying31 Tryz.infoRs rfl (by omega) _ kk.rl.length kk.rl rfl (HP0.out.st.p.ok.rown.alloc _) _ 1 [(.slice la q lc)] rfl (.inr (.inl ⟨w3.heap.size,0,1,rfl,bD w3 _ [(.slice la q lc)]⟩)) rfl (by intro u hu;simp at hu;subst hu;rfl) (by omega) (by omega) (by omega) ?_)
    intro u0 x0 xo0 xg0 xw0;obtain⟨f0,z0⟩:=HP0.out.midR (aE _ _) xg0.out;obtain⟨ua0,uc0,rfl⟩:=aM xo0.out;have HQ0:=aB (HP0.out.pushR hmk0.out (aE _ _) xg0.out xo0.out (by simpa using xw0.out))
    obtain⟨k1,hkn0⟩:∃ zz:BkD,zz={kk with rv:=.slice ua0 (kk.rl.length+1) uc0,rl:=kk.rl++[(.slice la q lc)]}:=⟨_,rfl⟩;have hL1:Hid (k1.rl.length=K.rl.length+1∧k1.il=K.il∧k1.bl=K.bl):=by
     have:=hL0.out;rw[hkn0];exact⟨by simp only[List.length_append,List.length_cons,List.length_nil];omega,this.2.1,this.2.2⟩
    have hiv1:Hid (k1.rv=.slice ua0 (kk.rl.length+1) uc0):=by show _=_;rw[hkn0]
    rw[←hkn0]at HQ0;obtain⟨y1,hy1⟩:∃ y,Hid (y=x0.setCell ⟨wb,3,none⟩ (.slice ua0 (kk.rl.length+1) uc0)):=⟨_,rfl⟩;have hsz1:Hid (y1.heap.size=x0.heap.size):=by show _=_;rw[hy1.out];simp[World.setCell]
    have HP1:=HQ0;rw[←hy1.out]at HP1;clear hkn0 xo0 xg0 xw0 hmk0 HQ0 HP0 e0;have hw1:=HP1.out.st.p.lt;have hmk1:Hid (lR k1.rl.length=[.int .i64 m,.int .i64 0,.int .i64 0,.int .i64 0,.slice none 0 0]):=by show _=_;have q1:=hL1.out.1;have q2:=h4k;rw[←HK.out]at q2;rw[Hm.out,lR,←HK.out,q1];congr 3;try omega
    have hlen1:k1.rl.length≤1099511627776+1:=by have:=hL1.out.1;rw[HK.out]at this;omega
    go_wp2_with (at_builtin;rw[←hy1.out];refine aD rfl (.tmp 77) (.tmp 79) 31 rfl 0 39 (.slice none 0 0) 1 24 Tryz.underlying31 Tryz.infoRs rfl (by omega) _ k1.rl.length k1.rl rfl ((fZ hiv1.out HP1.out.st.p.ok.rown).alloc _) _ 1 [(.slice va1 (q+1) vc1)] rfl (.inr (.inl ⟨x0.heap.size,0,1,rfl,nC hsz1.out (bD y1 _ [(.slice va1 (q+1) vc1)])⟩)) rfl (by intro u hu;simp at hu;subst hu;rfl) (by omega) (by omega) (by omega) ?_)
    intro u1 x1 xo1 xg1 xw1;rw[←hiv1.out]at xg1 xw1;obtain⟨f1,z1⟩:=HP1.out.midR (aE _ _) xg1.out;obtain⟨ua1,uc1,rfl⟩:=aM xo1.out;have HQ1:=aB (HP1.out.pushR hmk1.out (aE _ _) xg1.out xo1.out (by simpa using xw1.out))
    obtain⟨k2,hkn1⟩:∃ zz:BkD,zz={k1 with rv:=.slice ua1 (k1.rl.length+1) uc1,rl:=k1.rl++[(.slice va1 (q+1) vc1)]}:=⟨_,rfl⟩;have hL2:Hid (k2.rl.length=K.rl.length+2∧k2.il=K.il∧k2.bl=K.bl):=by
     have:=hL1.out;rw[hkn1];exact⟨by simp only[List.length_append,List.length_cons,List.length_nil];omega,this.2.1,this.2.2⟩
    have hiv2:Hid (k2.rv=.slice ua1 (k1.rl.length+1) uc1):=by show _=_;rw[hkn1]
    rw[←hkn1]at HQ1;obtain⟨y2,hy2⟩:∃ y,Hid (y=x1.setCell ⟨wb,3,none⟩ (.slice ua1 (k1.rl.length+1) uc1)):=⟨_,rfl⟩;have hsz2:Hid (y2.heap.size=x1.heap.size):=by show _=_;rw[hy2.out];simp[World.setCell]
    have HP2:=HQ1;rw[←hy2.out]at HP2;clear hkn1 xo1 xg1 xw1 hmk1 HQ1 HP1;have hw2:=HP2.out.st.p.lt;have hmk2:Hid (lR k2.rl.length=[.int .i64 m,.int .i64 0,.int .i64 0,.int .i64 0,.slice none 0 0]):=by show _=_;have q1:=hL2.out.1;have q2:=h4k;rw[←HK.out]at q2;rw[Hm.out,lR,←HK.out,q1];congr 3;try omega
    have hlen2:k2.rl.length≤1099511627776+2:=by have:=hL2.out.1;rw[HK.out]at this;omega
    go_wp2_with (at_builtin;rw[←hy2.out];refine aD rfl (.tmp 87) (.tmp 89) 31 rfl 0 39 (.slice none 0 0) 1 24 Tryz.underlying31 Tryz.infoRs rfl (by omega) _ k2.rl.length k2.rl rfl ((fZ hiv2.out HP2.out.st.p.ok.rown).alloc _) _ 1 [(.slice va2 (q+2) vc2)] rfl (.inr (.inl ⟨x1.heap.size,0,1,rfl,nC hsz2.out (bD y2 _ [(.slice va2 (q+2) vc2)])⟩)) rfl (by intro u hu;simp at hu;subst hu;rfl) (by omega) (by omega) (by omega) ?_)
    intro u2 x2 xo2 xg2 xw2;rw[←hiv2.out]at xg2 xw2;obtain⟨f2,z2⟩:=HP2.out.midR (aE _ _) xg2.out;obtain⟨ua2,uc2,rfl⟩:=aM xo2.out;have HQ2:=aB (HP2.out.pushR hmk2.out (aE _ _) xg2.out xo2.out (by simpa using xw2.out))
    obtain⟨k3,hkn2⟩:∃ zz:BkD,zz={k2 with rv:=.slice ua2 (k2.rl.length+1) uc2,rl:=k2.rl++[(.slice va2 (q+2) vc2)]}:=⟨_,rfl⟩;have hL3:Hid (k3.rl.length=K.rl.length+3∧k3.il=K.il∧k3.bl=K.bl):=by
     have:=hL2.out;rw[hkn2];exact⟨by simp only[List.length_append,List.length_cons,List.length_nil];omega,this.2.1,this.2.2⟩
    have hiv3:Hid (k3.rv=.slice ua2 (k2.rl.length+1) uc2):=by show _=_;rw[hkn2]
    rw[←hkn2]at HQ2;obtain⟨y3,hy3⟩:∃ y,Hid (y=x2.setCell ⟨wb,3,none⟩ (.slice ua2 (k2.rl.length+1) uc2)):=⟨_,rfl⟩;have hsz3:Hid (y3.heap.size=x2.heap.size):=by show _=_;rw[hy3.out];simp[World.setCell]
    have HP3:=HQ2;rw[←hy3.out]at HP3;clear hkn2 xo2 xg2 xw2 hmk2 HQ2 HP2;have hw3:=HP3.out.st.p.lt;have hmk3:Hid (lR k3.rl.length=[.int .i64 m,.int .i64 0,.int .i64 0,.int .i64 0,.slice none 0 0]):=by show _=_;have q1:=hL3.out.1;have q2:=h4k;rw[←HK.out]at q2;rw[Hm.out,lR,←HK.out,q1];congr 3;try omega
    have hlen3:k3.rl.length≤1099511627776+3:=by have:=hL3.out.1;rw[HK.out]at this;omega
    go_wp2_with (at_builtin;rw[←hy3.out];refine aD rfl (.tmp 97) (.tmp 99) 31 rfl 0 39 (.slice none 0 0) 1 24 Tryz.underlying31 Tryz.infoRs rfl (by omega) _ k3.rl.length k3.rl rfl ((fZ hiv3.out HP3.out.st.p.ok.rown).alloc _) _ 1 [(.slice va3 (q+3) vc3)] rfl (.inr (.inl ⟨x2.heap.size,0,1,rfl,nC hsz3.out (bD y3 _ [(.slice va3 (q+3) vc3)])⟩)) rfl (by intro u hu;simp at hu;subst hu;rfl) (by omega) (by omega) (by omega) ?_)
    intro u3 x3 xo3 xg3 xw3;rw[←hiv3.out]at xg3 xw3;obtain⟨f3,z3⟩:=HP3.out.midR (aE _ _) xg3.out;obtain⟨ua3,uc3,rfl⟩:=aM xo3.out;have HQ3:=aB (HP3.out.pushR hmk3.out (aE _ _) xg3.out xo3.out (by simpa using xw3.out))
    obtain⟨k4,hkn3⟩:∃ zz:BkD,zz={k3 with rv:=.slice ua3 (k3.rl.length+1) uc3,rl:=k3.rl++[(.slice va3 (q+3) vc3)]}:=⟨_,rfl⟩;have hL4:Hid (k4.rl.length=K.rl.length+4∧k4.il=K.il∧k4.bl=K.bl):=by
     have:=hL3.out;rw[hkn3];exact⟨by simp only[List.length_append,List.length_cons,List.length_nil];omega,this.2.1,this.2.2⟩
    have hiv4:Hid (k4.rv=.slice ua3 (k3.rl.length+1) uc3):=by show _=_;rw[hkn3]
    rw[←hkn3]at HQ3;obtain⟨y4,hy4⟩:∃ y,Hid (y=x3.setCell ⟨wb,3,none⟩ (.slice ua3 (k3.rl.length+1) uc3)):=⟨_,rfl⟩;have hsz4:Hid (y4.heap.size=x3.heap.size):=by show _=_;rw[hy4.out];simp[World.setCell]
    have HP4:=HQ3;rw[←hy4.out]at HP4;clear hkn3 xo3 xg3 xw3 hmk3 HQ3 HP3
    go_wp2_with fail
    rw[←hy4.out];refine bodyPost_end (results_none rfl _ _ _) rfl ?_;have F1:BkStep wb kk k4 (gF (.slice la q lc) L) W0 y4:=HP4.out.st.done.mono (fun b hb=>.inl hb);have F2:BkStep wb kk k4 (gF (.slice la q lc) L) wo y4:=BkStep.pre (by rw[HW0.out];exact Only.new (aE _ _)) (fun hc=>(Hls.out wb hc).2 rfl) F1
    have q1:=hL4.out;rw[HK.out]at q1;have q2:=HI.out.il;have q3:=congrArg List.length q2.2.2.1;exact⟨rfl,k4,HI.out.st.trans F2,by rw[q1.2.1];exact q2.1,by rw[q1.2.1];exact q2.2.1,by omega,q1.2.2.trans q2.2.2.2⟩
end Go.Proofs.YtndlmgocldckfaaGreat
