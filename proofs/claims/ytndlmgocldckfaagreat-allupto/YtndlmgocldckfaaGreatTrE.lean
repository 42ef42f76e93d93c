import Derived.Test.YtndlmgocldckfaaGreatG35
namespace Go.Proofs.YtndlmgocldckfaaGreat
open Go.RowKit
set_option linter.unusedVariables false
set_option linter.unusedSimpArgs false
set_option maxRecDepth 100000
set_option maxHeartbeats 4000000
theorem uA{rs:List Rec}(h:fX rs=true):∀ c∈lE rs,0≤c∧c<256:=by
 intro c hc;rcases List.mem_append.1 hc with hc|hc
 ·rcases List.mem_append.1 hc with hc|hc
  ·simp at hc;omega
  ·exact nU h c hc
 ·exact jC _ c hc
theorem zR(l:List Int)(w:World)(hv:∀ c∈l,0≤c∧c<256)(hll:l.length≤1000000000) :
  Calls Tryz.prog 35 #[.string (aH l)] w fun e w'=>Below w.heap.size w w'∧((oR l=0∧∃ a cap,e=.returned (.tuple #[.slice a (oQ (aK l)).1.length cap,.int .i64 0])∧∃ L,AllR w' w.heap.size (.slice a (oQ (aK l)).1.length cap) L (oQ (aK l)).1)∨(oR l≠0∧e=.returned (.tuple #[.slice none 0 0,.int .i64 (oR l)]))):=by
 have Hv:=aB hv;have hzl:(aH l).size=l.length:=bV l;have HFr:=aB (tT [84,77,82,1] l w hv hll rfl (by simp))
 clear hv
 by_cases h0:aU [84,77,82,1] l=0
 rotate_left
 ·have d0:(aU [84,77,82,1] l != 0)=true:=by simpa using h0
  have HE:Hid (oR l=aU [84,77,82,1] l):=by show _=_;rw[oR,if_pos h0]
  have Hn0:=aB h0;clear h0
  go_enter Tryz.func35,Tryz.ntmps35
  go_wp2_with (go_at_call 66;refine HFr.out.mono ?_;rintro e w2 ⟨rfl,hb2⟩)
  go_ret2;rw[HE.out];exact⟨hb2,.inr ⟨Hn0.out,rfl⟩⟩
 ·have hl8:8≤l.length:=(iW h0).1;have HH:=aB h0;have x2:(aH l).extract 0 (l.length-4)=aH (l.take (l.length-4)):=by rw[mM];rfl
  have e4:((l.length:Int)-4).toNat=l.length-4:=by omega
  rw[h0]at HFr;clear h0
  go_enter Tryz.func35,Tryz.ntmps35
  go_wp2_with (go_at_call 66;refine HFr.out.mono ?_;rintro e w2 ⟨rfl,hb2⟩)
  obtain⟨W3,hW3⟩:∃ W3,W3=w2.alloc (.cells #[.string (aH (l.take (l.length-4))),.int .i64 4,.bool false] 125):=⟨_,rfl⟩;have hz2:=hb2.size;have hb3:Below w2.heap.size w2 W3:=by rw[hW3];exact aE _ _
  obtain⟨db,hdb⟩:∃ db,db=w2.heap.size:=⟨_,rfl⟩;have hRd:RdS W3 db (l.take (l.length-4)) (aK l) false:=by
   rw[hdb];refine⟨by rw[hW3];simp[go_sem],⟨4,by simp;omega,rfl,by rw[hW3];simp[go_sem]⟩,by rw[hW3];simp[go_sem],?_⟩
   intro j hj;rw[hW3];have:j=0∨j=1∨j=2:=by omega
   rcases this with rfl|rfl|rfl<;>simp[go_sem]
  have HVA:Hid (∀ c∈l.take (l.length-4),0≤c∧c<256):=fun c hc=>Hv.out c (List.mem_of_mem_take hc);have hAl:(l.take (l.length-4)).length≤1000000000:=by simp;omega
  have HB3:Hid (Below w.heap.size w W3):=hb2.trans (hb3.mono hz2);rw[←hW3,←hdb];have hdw:w.heap.size≤db:=by omega
  clear hW3 hb3 hb2 hdb HFr x2 e4;obtain⟨A,hA⟩:∃ A,A=l.take (l.length-4):=⟨_,rfl⟩;rw[←hA]at hRd HVA hAl;clear hA;have HBytes:Hid (∀ c∈aK l,0≤c∧c<256):=fun c hc=>Hv.out c (List.mem_of_mem_take (List.mem_of_mem_drop hc));have HD:Hid (oQ (aK l)=kM (aW 0 1000 (aK l) false).1.toNat 0 (aW 0 1000 (aK l) false).2.1 (aW 0 1000 (aK l) false).2.2):=by show _=_;rfl
  have hN:=mY db A (aK l) false 0 1000 W3 hRd HVA.out hAl;have hrg:=eC 0 1000 (aK l) false HBytes.out;have hgd:=bJ (lo:=0) (hi:=1000) (l:=aK l) (bad:=false);have HDN:Hid (oR l=if (oQ (aK l)).2.2 then 4 else if fX (oQ (aK l)).1&&decide (lE (oQ (aK l)).1=l)then 0 else 4):=by
   show _=_;rw[oR,if_neg (by simpa using HH.out)]
  obtain⟨RES,hR0⟩:∃ R,R=oQ (aK l):=⟨_,rfl⟩;rw[←hR0]at HD HDN;have HR0:=aB hR0;clear hR0;generalize aW 0 1000 (aK l) false=r at hN hrg HD hgd;obtain⟨n,l1,f1⟩:=r;simp only at hN hrg HD hgd;obtain⟨N,rfl⟩:∃ N:Nat,n=N:=⟨n.toNat,by omega⟩
  simp only[Int.toNat_natCast]at HD;have HS:Hid (∀ w1,Only (·=db) W3 w1→RdS w1 db A l1 f1→DcI w w1 db A N RES 0 0 (.slice none 0 0) [] [] l1 f1):=by
   intro w1 ho hr;have hz3:=HB3.out.size;exact⟨HB3.out.trans (ho.below hz3 (fun k hk hc=>by omega)),hdw,hr,AllR.nil _ _,rfl,fun hf=>⟨by have:=(hgd hf).2.2;omega,by omega,by omega⟩,by rw[HD.out];simp,by rw[HD.out];simp⟩
  have HN:=aB hN;have hN2:(N:Int)<562949953421312:=hrg.2;clear hN hrg hgd hRd HD;refine HN.out.mono ?_;rintro e w1 ⟨rfl,ho1,hr1⟩;have HL1:=aB (HS.out w1 ho1 hr1);clear ho1 hr1 HS HN
  go_wp2_with fail
  go_loopg [7,8,9,10,11,12,13] (N+3) (fun g s7 s8 s9 _ _ _ _ wr=>∃ (i:Nat) (t:Int) (lv:Value) (L:List RecC) (rs:List Rec) (lk:List Int) (bad:Bool),s7=lv∧s8=.int .i64 t∧s9=.int .i64 i∧N-i+2≤g∧i≤N∧Hid (DcI w wr db A N RES i t lv L rs lk bad))
  case atStart=>exact⟨0,0,_,[],[],l1,f1,rfl,rfl,rfl,by omega,by omega,HL1.out⟩
  case round=>
   obtain⟨i,t,lv,L,rs,lk,bad,rfl,rfl,rfl,hg,hi,hI⟩:=hrel;clear HL1;have k2:=hI.out.rd.bad;obtain⟨va,vc,rfl,hin⟩:=hI.out.recs.recIn;have HIn:=aB hin;clear hin;have go:(i<N∧bad=false)∨(¬(i<N∧bad=false)):=by by_cases h:i<N∧bad=false;exact .inl h;exact .inr h
   rcases go with⟨hlt,rfl⟩|hno
   ·have d1:decide ((i:Int)<(N:Int))=true:=by simp;omega
    obtain⟨hN16,ht0,ht1⟩:=hI.out.ok rfl;have hii:(i:Int)<(N:Int):=by omega
    have hw:IntKind.i64.wrap ((i:Int)+1)=(i:Int)+1:=by rw[IntKind.wrap_i64];omega
    have hbl:=hI.out.rd.bytes HVA.out;rcases ea:aW 0 1000000000000 lk false with⟨v1,l1,f1⟩;have hb1:=bC (lo:=0) (hi:=1000000000000) (bad:=false) hbl;have hr1:=eC 0 1000000000000 lk false hbl;rw[ea]at hb1 hr1;simp only at hb1 hr1;rcases eb:aW 0 1000000000 l1 f1 with⟨v2,l2,f2⟩;have hb2:=bC (lo:=0) (hi:=1000000000) (bad:=f1) hb1;rw[eb]at hb2;simp only at hb2;rcases ec:aW 0 7 l2 f2 with⟨v3,l3,f3⟩;have hb3:=bC (lo:=0) (hi:=7) (bad:=f2) hb2;rw[ec]at hb3;simp only at hb3;rcases ed:aW 0 7 l3 f3 with⟨v4,l4,f4⟩;have hb4:=bC (lo:=0) (hi:=7) (bad:=f3) hb3;rw[ed]at hb4;simp only at hb4;rcases ee:aW 0 16 l4 f4 with⟨v5,l5,f5⟩;have hr5:=eC 0 16 l4 f4 hb4;rw[ee]at hr5;simp only at hr5;obtain⟨M,rfl⟩:∃ M:Nat,v5=M:=⟨v5.toNat,by omega⟩
    have HE:Hid (pN t lk false=(⟨⟨t+v1,v2,v3,v4⟩,(iZ M l5 f5).1⟩,(iZ M l5 f5).2)):=by show _=_;simp[pN,ea,eb,ec,ed,ee]
    have HM16:Hid (f5=false→M≤16∧v1≤1000000000000):=by
     intro hf;have g5:=bJ (lo:=0) (hi:=16) (l:=l4) (bad:=f4) (by rw[ee];exact hf)
     have g4:=bJ (lo:=0) (hi:=7) (l:=l3) (bad:=f3) (by rw[ed];exact g5.1)
     have g3:=bJ (lo:=0) (hi:=7) (l:=l2) (bad:=f2) (by rw[ec];exact g4.1)
     have g2:=bJ (lo:=0) (hi:=1000000000) (l:=l1) (bad:=f1) (by rw[eb];exact g3.1)
     have g1:=bJ (lo:=0) (hi:=1000000000000) (l:=lk) (bad:=false) (by rw[ea];exact g2.1)
     rw[ee]at g5;rw[ea]at g1;exact⟨by have:=g5.2.2;simp only at this;omega,g1.2.2⟩
    have HA:=aB ea;have HBb:=aB eb;have HCc:=aB ec;have HDd:=aB ed;have HEe:=aB ee;clear ea eb ec ed ee hb1 hb2 hb3 hb4 hbl;have hadd:wrap64 (t+v1)=t+v1:=by simp only[wrap64];omega
    have hv1:0≤v1:=hr1.1;have hdl:=hI.out.rd.lt;obtain⟨E,hE⟩:∃ E,E=wr.heap.size:=⟨_,rfl⟩;obtain⟨W1,hW1⟩:∃ W1,W1=wr.alloc (.cells #[.int .i64 0,.int .i64 0,.int .i64 0,.int .i64 0,.slice none 0 0] 46):=⟨_,rfl⟩;have HXa:Hid (RdX wr W1 db E A 0 0 0 0 (.slice none 0 0) lk false):=by
     have hb:Below wr.heap.size wr W1:=by rw[hW1];exact aE _ _
     exact⟨Only.new hb,hI.out.rd.below hb,by rw[hW1,hE];exact RcO.new _ _,by omega⟩
    have HW1:=aB hW1;have HEq:Hid (E=wr.heap.size):=hE;clear hW1
    go_wp2_with fail
    rw[←HW1.out,←HEq.out];clear hE;refine(HXa.out.num HVA.out hAl 0 1000000000000).mono ?_;rw[HA.out];rintro e w1 ⟨rfl,hX1⟩;simp only at hX1 ⊢;have fz:=(hX1.rc.room 1 (by omega)).2
    have x1:=hX1.rc.c1;have HXb:=aB (hX1.put (hX1.rc.set1 (t+v1)));clear hX1 HXa HA k2
    go_wp2_with fail
    generalize hW2:w1.setCell ⟨E,1,none⟩ (.int .i64 (t+v1))=W2 at HXb ⊢;clear hW2 fz x1 w1;refine(HXb.out.num HVA.out hAl 0 1000000000).mono ?_;rw[HBb.out];rintro e w2 ⟨rfl,hX1⟩;simp only at hX1 ⊢;have fz:=(hX1.rc.room 0 (by omega)).2
    have x1:=hX1.rc.c0;have HXc:=aB (hX1.put (hX1.rc.set0 v2));clear hX1 HXb HBb
    go_wp2_with fail
    generalize hW3:w2.setCell ⟨E,0,none⟩ (.int .i64 v2)=W3 at HXc ⊢;clear hW3 fz x1 w2;refine(HXc.out.num HVA.out hAl 0 7).mono ?_;rw[HCc.out];rintro e w3 ⟨rfl,hX1⟩;simp only at hX1 ⊢;have fz:=(hX1.rc.room 2 (by omega)).2
    have x1:=hX1.rc.c2;have HXd:=aB (hX1.put (hX1.rc.set2 v3));clear hX1 HXc HCc
    go_wp2_with fail
    generalize hW4:w3.setCell ⟨E,2,none⟩ (.int .i64 v3)=W4 at HXd ⊢;clear hW4 fz x1 w3;refine(HXd.out.num HVA.out hAl 0 7).mono ?_;rw[HDd.out];rintro e w4 ⟨rfl,hX1⟩;simp only at hX1 ⊢;have fz:=(hX1.rc.room 3 (by omega)).2
    have x1:=hX1.rc.c3;have HXe:=aB (hX1.put (hX1.rc.set3 v4));clear hX1 HXd HDd
    go_wp2_with fail
    generalize hW5:w4.setCell ⟨E,3,none⟩ (.int .i64 v4)=W5 at HXe ⊢;clear hW5 fz x1 w4;refine(HXe.out.num HVA.out hAl 0 16).mono ?_;rw[HEe.out];rintro e w5 ⟨rfl,hX1⟩;simp only at hX1 ⊢;obtain⟨TR,hTR⟩:∃ TR,TR=iZ M l5 f5:=⟨_,rfl⟩;rw[←hTR]at HE;have HOk:Hid (TR.2.2=false→v1≤1000000000000):=by
     intro hf;refine(HM16.out ?_).2;cases f5 with
     | false=>rfl
     | true=>rw[hTR,wN]at hf;exact hf
    have HT0:Hid (ToJ wr w5 db E A v2 (t+v1) v3 v4 (.slice none 0 0) M TR 0 [] l5 f5):=⟨hX1,World.ownsRow_nil _ _ _ _,rfl,fun hf=>(HM16.out hf).1,by rw[hTR];simp,by rw[hTR];simp⟩
    have hM2:(M:Int)<562949953421312:=hr5.2;clear hX1 HXe HEe hTR hr5
    go_wp2_with fail
    go_loopg [12,13] (M+3) (fun g s12 _ wx=>∃ (j:Nat) (tv:Value) (ts lj:List Int) (bj:Bool),s12=.int .i64 j∧M-j+2≤g∧j≤M∧Hid (ToJ wr wx db E A v2 (t+v1) v3 v4 tv M TR j ts lj bj))
    case atStart=>exact⟨0,_,[],l5,f5,rfl,by omega,by omega,HT0.out⟩
    case round=>
     obtain⟨j,tv,ts,lj,bj,rfl,hgj,hjM,hJ⟩:=hrel;clear HT0;rename World=>wx;have kb:=hJ.out.x.rd.bad;obtain⟨ta,tc,rfl⟩:=dE hJ.out.row;have hdE:=hJ.out.x.ne;have goj:(j<M∧bj=false)∨(¬(j<M∧bj=false)):=by by_cases h:j<M∧bj=false;exact .inl h;exact .inr h
     rcases goj with⟨hjl,rfl⟩|hnoj
     ·have d2:decide ((j:Int)<(M:Int))=true:=by simp;omega
      have hjj:(j:Int)<(M:Int):=by omega
      have hjw:IntKind.i64.wrap ((j:Int)+1)=(j:Int)+1:=by rw[IntKind.wrap_i64];omega
      have hM16:=hJ.out.ok rfl;have htl:ts.length≤j:=by have:=hJ.out.len;omega
      have hX:=wH db A lj false wx hJ.out.x.rd HVA.out hAl;rcases es:fM lj false with⟨sv,ls,fs⟩;rw[es]at hX;simp only at hX;have HX:=aB hX;have HES:=aB es;clear hX es
      go_wp2_with fail
      refine HX.out.mono ?_;rintro e6 w6 ⟨rfl,ho6,hr6⟩;have hz6:=ho6.size;have hEx:E<wx.heap.size:=aC hJ.out.x.rc.c0;have x4:w6.cell? ⟨E,4,none⟩=some (.slice ta ts.length tc):=ho6.at hJ.out.x.rc.c4 (by omega)
      have HRm:Hid (Room w6 E 5):=hJ.out.x.rc.room.only ho6 (by omega)
      have HRow6:Hid (w6.ownsRow (E+1) 3 1 (.slice ta ts.length tc) ts.length (ints ts)):=aN hJ.out.row ho6 (fun b hb hc=>by have:=(hJ.out.row.lt b hb.symm).1;omega)
      have HO6:=aB ho6;have HR6:=aB hr6;clear ho6 hr6 HX kb
      go_wp2_with (at_builtin;refine aD rfl (.tmp 73) (.tmp 75) 24 rfl (E+1) 3 (.int .i64 0) 1 8 Tryz.underlying24 Tryz.info3 rfl (by omega) (.slice ta ts.length tc) ts.length (ints ts) rfl (HRow6.out.alloc _) _ 1 [.int .i64 sv] rfl (.inr (.inl ⟨w6.heap.size,0,_,rfl,bD _ _ [.int .i64 sv]⟩)) rfl (by simp[Value.oneCell']) (by omega) (by omega) (by simp;omega) ?_)
      intro tv2 w7 hown7 hgr7 hwh7;have hlt7:∀ b,some b=(Value.slice ta ts.length tc).ownBlock→E<b:=fun b hb=>by have:=(HRow6.out.lt b hb.symm).1;omega
      have ho7:Only (fun b=>some b=(Value.slice ta ts.length tc).ownBlock) w6 w7:=(Only.new (aE _ _)).trans (aF hgr7.out);have x5:=ho7.at x4 (fun hc=>by have:=hlt7 _ hc;omega)
      have f5':=((HRm.out.only ho7 (fun hc=>by have:=hlt7 _ hc;omega)) 4 (by omega)).2
      have HJ7:=aB (hJ.out.push hjl HES.out HO6.out HR6.out (aE _ _) hgr7.out hown7.out (by rw[World.size_alloc];exact hwh7.out))
      obtain⟨ta2,tc2,rfl⟩:=dE hown7.out;clear ho7 hlt7 hown7 hgr7 hwh7 HRow6 x4 HRm HO6 HR6 hJ
      go_wp2_with fail
      go_roundg (M-(j+1)+2)
      case measure=>omega
      case rel=>exact⟨j+1,_,_,_,_,by go_num,Nat.le_refl _,by omega,HJ7.out⟩
     ·have hdn:bj=true∨M≤j:=by
       rcases bj with _|_
       ·exact .inr (Nat.le_of_not_lt (fun hc=>hnoj ⟨hc,rfl⟩))
       ·exact .inl rfl
      have hTR:=hJ.out.done hdn;have hLi:L.length≤i:=by have:=hI.out.len;omega
      have HRec:Hid (pN t lk false=(⟨⟨t+v1,v2,v3,v4⟩,ts⟩,lj,bj)):=by show _=_;rw[HE.out,hTR]
      have HOk2:Hid (bj=false→t≤t+v1∧t+v1≤t+1000000000000):=by
       intro hf;have:=HOk.out (by rw[hTR];exact hf)
       omega
      clear hTR HE HOk HM16;obtain⟨W3,hW3⟩:∃ W3,W3=wx.alloc (.cells #[.int .i64 v2,.int .i64 (t+v1),.int .i64 v3,.int .i64 v4,.slice ta ts.length tc] 46):=⟨_,rfl⟩;have hb3:Below wx.heap.size wx W3:=by rw[hW3];exact aE _ _
      have HsR:Hid (RowAt W3 wx.heap.size 0 (RecC.cells ⟨⟨t+v1,v2,v3,v4⟩,ta,ts.length,tc⟩)):=by rw[hW3];exact bD _ _ _
      have hon:=hJ.out.x.only;have hzx:=hon.size;have hz3:=hb3.size;have HA4:Hid (AllR W3 (db+1) (.slice va rs.length vc) L rs):=(hI.out.recs.only hon (fun b hb hc=>by have:=hI.out.recs.lt b hb;have:=HEq.out;omega)).only (Only.new (S:=fun _=>False) hb3) (by simp)
      have hx1:=aA hb3 hJ.out.x.rc.c1 (aC hJ.out.x.rc.c1);have c0:=hJ.out.x.rc.c0;have c1:=hJ.out.x.rc.c1;have c2:=hJ.out.x.rc.c2;have c3:=hJ.out.x.rc.c3;have c4:=hJ.out.x.rc.c4;have HX:=aB hJ.out.x;have HRow:=aB hJ.out.row;have HB3:=aB hb3;have HW3:=aB hW3;clear hJ hb3 hon hW3
      by_cases hjl:j<M
      ·obtain rfl:bj=true:=by
        rcases hdn with h|h
        ·exact h
        ·omega
       have d2:decide ((j:Int)<(M:Int))=true:=by simp;omega
       have d3:decide (j<M)=true:=by simp;omega
       clear hnoj hdn
       go_wp2_with (at_builtin;rw[←HW3.out];refine aD rfl (.tmp 78) (.tmp 80) 39 rfl (db+1) 46 (.agg #[.int .i64 0,.int .i64 0,.int .i64 0,.int .i64 0,.slice none 0 0]) 5 56 Tryz.underlying39 Tryz.infoR rfl (by omega) (.slice va rs.length vc) L.length (bA L) rfl HA4.out.row _ 1 (RecC.cells ⟨⟨t+v1,v2,v3,v4⟩,ta,ts.length,tc⟩) rfl (.inr (.inl ⟨wx.heap.size,0,_,rfl,HsR.out⟩)) rfl ?_ (by omega) (by omega) (by omega) ?_)
       ·intro u hu;simp[RecC.cells]at hu;rcases hu with rfl|rfl|rfl|rfl|rfl<;>rfl
       intro v5 w9 hown9 hgr9 hwh9;have hgr:=hgr9.out;have hwh:v5.ownBlock=(Value.slice va rs.length vc).ownBlock∨v5.ownBlock=some W3.heap.size:=by first|exact hwh9.out|(rw[HW3.out,World.size_alloc];exact hwh9.out)
       have HD9:=aB (hI.out.push hlt HRec.out HOk2.out (by rw[←HEq.out];exact HX.out) (by rw[←HEq.out];exact HRow.out) HB3.out hgr hown9.out hwh)
       have x9:=(aF hgr).at hx1 (fun hc=>by have:=hI.out.recs.lt E (.inl hc);have:=HEq.out;omega)
       obtain⟨sa9,sc9,rfl⟩:=dE hown9.out;clear hgr hwh hown9 hgr9 hwh9 HA4 HsR HX HRow c0 c1 c2 c3 c4 hx1 HRec HOk2 hI
       go_wp2_with fail
       go_roundg (N-(i+1)+2)
       case measure=>omega
       case rel=>exact⟨i+1,t+v1,_,_,_,_,_,rfl,rfl,by go_num,Nat.le_refl _,by omega,HD9.out⟩
      ·have d2:decide ((j:Int)<(M:Int))=false:=by simp;omega
       have d3:decide (j<M)=false:=by simp;omega
       clear hnoj hdn
       go_wp2_with (at_builtin;rw[←HW3.out];refine aD rfl (.tmp 78) (.tmp 80) 39 rfl (db+1) 46 (.agg #[.int .i64 0,.int .i64 0,.int .i64 0,.int .i64 0,.slice none 0 0]) 5 56 Tryz.underlying39 Tryz.infoR rfl (by omega) (.slice va rs.length vc) L.length (bA L) rfl HA4.out.row _ 1 (RecC.cells ⟨⟨t+v1,v2,v3,v4⟩,ta,ts.length,tc⟩) rfl (.inr (.inl ⟨wx.heap.size,0,_,rfl,HsR.out⟩)) rfl ?_ (by omega) (by omega) (by omega) ?_)
       ·intro u hu;simp[RecC.cells]at hu;rcases hu with rfl|rfl|rfl|rfl|rfl<;>rfl
       intro v5 w9 hown9 hgr9 hwh9;have hgr:=hgr9.out;have hwh:v5.ownBlock=(Value.slice va rs.length vc).ownBlock∨v5.ownBlock=some W3.heap.size:=by first|exact hwh9.out|(rw[HW3.out,World.size_alloc];exact hwh9.out)
       have HD9:=aB (hI.out.push hlt HRec.out HOk2.out (by rw[←HEq.out];exact HX.out) (by rw[←HEq.out];exact HRow.out) HB3.out hgr hown9.out hwh)
       have x9:=(aF hgr).at hx1 (fun hc=>by have:=hI.out.recs.lt E (.inl hc);have:=HEq.out;omega)
       obtain⟨sa9,sc9,rfl⟩:=dE hown9.out;clear hgr hwh hown9 hgr9 hwh9 HA4 HsR HX HRow c0 c1 c2 c3 c4 hx1 HRec HOk2 hI
       go_wp2_with fail
       go_roundg (N-(i+1)+2)
       case measure=>omega
       case rel=>exact⟨i+1,t+v1,_,_,_,_,_,rfl,rfl,by go_num,Nat.le_refl _,by omega,HD9.out⟩
   ·have hdn:bad=true∨N≤i:=by
     rcases bad with _|_
     ·exact .inr (Nat.le_of_not_lt (fun hc=>hno ⟨hc,rfl⟩))
     ·exact .inl rfl
    have hRES:=hI.out.done hdn;subst hRES;simp only at HDN;have HBel:=aB hI.out.bel;have HRcs:=aB (hI.out.recs.mono (show w.heap.size≤db+1 by omega))
    clear hI;rcases bad with _|_
    ·have hNi:N≤i:=by
      rcases hdn with h|h
      ·cases h
      ·exact h
     have d1:decide ((i:Int)<(N:Int))=false:=by simp;omega
     have d1':decide (i<N)=false:=by simp;omega
     simp only[Bool.false_eq_true,if_false]at HDN;have HEn:=aB (mO va vc rs wr HIn.out);clear hno hdn;rcases ha:fX rs with _|_
     ·have e1:nY rs=[]:=by simp[nY,ha]
      have e2:nZ rs=1:=by simp[nZ,ha]
      rw[e1,e2]at HEn;have HZ:Hid (oR l=4):=by show _=_;rw[HDN.out,ha];rfl
      clear e1 e2 ha HDN
      go_wp2_with (go_at_call 39;refine HEn.out.mono ?_;rintro e w7 ⟨rfl,hb7⟩)
      go_ret2;rw[HZ.out];exact⟨HBel.out.trans (hb7.mono HBel.out.size),.inr ⟨by decide,rfl⟩⟩
     ·have e1:nY rs=lE rs:=by simp[nY,ha]
      have e2:nZ rs=0:=by simp[nZ,ha]
      have hcmp:=rI (uA ha) Hv.out;rw[e1,e2]at HEn;rw[ha]at HDN;generalize lE rs=SV at HEn HDN hcmp;clear e1 e2 ha
      by_cases hEq:SV=l
      ·have hcm:((aH SV).toList==(aH l).toList)=true:=by rw[hcmp];simpa using hEq
       have HZ:Hid (oR l=0):=by show _=_;rw[HDN.out];simp[hEq]
       clear hcmp hEq HDN
       go_wp2_with (go_at_call 39;refine HEn.out.mono ?_;rintro e w7 ⟨rfl,hb7⟩)
       go_ret2;rw[←HR0.out];exact⟨HBel.out.trans (hb7.mono HBel.out.size),.inl ⟨HZ.out,va,vc,rfl,L,HRcs.out.only (Only.new (S:=fun _=>False) hb7) (by simp)⟩⟩
      ·have hcm:((aH SV).toList==(aH l).toList)=false:=by rw[hcmp];simpa using hEq
       have HZ:Hid (oR l=4):=by show _=_;rw[HDN.out];simp[hEq]
       clear hcmp hEq HDN
       go_wp2_with (go_at_call 39;refine HEn.out.mono ?_;rintro e w7 ⟨rfl,hb7⟩)
       go_ret2;rw[HZ.out];exact⟨HBel.out.trans (hb7.mono HBel.out.size),.inr ⟨by decide,rfl⟩⟩
    ·have HZ:Hid (oR l=4):=by show _=_;rw[HDN.out];rfl
     clear HDN hno hdn
     by_cases hlt:i<N
     ·have d1:decide ((i:Int)<(N:Int))=true:=by simp;omega
      have d1':decide (i<N)=true:=by simpa using hlt
      go_wp2_with fail
      go_ret2;rw[HZ.out];exact⟨HBel.out,.inr ⟨by decide,rfl⟩⟩
     ·have d1:decide ((i:Int)<(N:Int))=false:=by simp;omega
      have d1':decide (i<N)=false:=by simpa using hlt
      go_wp2_with fail
      go_ret2;rw[HZ.out];exact⟨HBel.out,.inr ⟨by decide,rfl⟩⟩
end Go.Proofs.YtndlmgocldckfaaGreat
