import Derived.Test.YtndlmgocldckfaaGreatG32
import Derived.Test.YtndlmgocldckfaaGreatG30
import Derived.Deep.CutRange
import Derived.Deep.DeepCutAuto
namespace Go.Proofs.YtndlmgocldckfaaGreat
open Go.RowKit
set_option linter.unusedVariables false
set_option linter.unusedSimpArgs false
set_option maxRecDepth 100000
set_option maxHeartbeats 4000000
theorem aFv(ents:Int)(nk:Nat)(next:Int)(n:Nat)(t:Int)(q:List Ev)(l:List Int):quL ents nk next n t q l true=(q,l,true):=by
 cases n<;>simp[quL]
structure EvO(w:World)(eb:Nat)(a b c d:Int):Prop where
 c0:w.cell? ⟨eb,0,none⟩=some (.int .i64 a)
 c1:w.cell? ⟨eb,1,none⟩=some (.int .i64 b)
 c2:w.cell? ⟨eb,2,none⟩=some (.int .i64 c)
 c3:w.cell? ⟨eb,3,none⟩=some (.int .i64 d)
 room:Room w eb 4
theorem EvO.only{w w':World}{eb:Nat}{a b c d:Int}{S:Nat→Prop}(h:EvO w eb a b c d)(ho:Only S w w')(hn:¬S eb):EvO w' eb a b c d:=
 ⟨ho.at h.c0 hn,ho.at h.c1 hn,ho.at h.c2 hn,ho.at h.c3 hn,h.room.only ho hn⟩
theorem EvO.new(w:World)(T:TypeId):EvO (w.alloc (.cells #[.int .i64 0,.int .i64 0,.int .i64 0,.int .i64 0] T)) w.heap.size 0 0 0 0:=by
 refine⟨by simp[go_sem],by simp[go_sem],by simp[go_sem],by simp[go_sem],?_⟩
 intro j hj;have:j=0∨j=1∨j=2∨j=3:=by omega
 rcases this with rfl|rfl|rfl|rfl<;>simp[go_sem]
theorem EvO.set0{w:World}{eb:Nat}{a b c d:Int}(h:EvO w eb a b c d)(x:Int):EvO (w.setCell ⟨eb,0,none⟩ (.int .i64 x)) eb x b c d:=
 ⟨World.cell?_setCell_same' _ _ _ (h.room 0 (by omega)).1,by rw[World.cell?_setCell_other _ _ _ _ (by simp)];exact h.c1,by rw[World.cell?_setCell_other _ _ _ _ (by simp)];exact h.c2,by rw[World.cell?_setCell_other _ _ _ _ (by simp)];exact h.c3,h.room.setCell _ _⟩
theorem EvO.set1{w:World}{eb:Nat}{a b c d:Int}(h:EvO w eb a b c d)(x:Int):EvO (w.setCell ⟨eb,1,none⟩ (.int .i64 x)) eb a x c d:=
 ⟨by rw[World.cell?_setCell_other _ _ _ _ (by simp)];exact h.c0,World.cell?_setCell_same' _ _ _ (h.room 1 (by omega)).1,by rw[World.cell?_setCell_other _ _ _ _ (by simp)];exact h.c2,by rw[World.cell?_setCell_other _ _ _ _ (by simp)];exact h.c3,h.room.setCell _ _⟩
theorem EvO.set2{w:World}{eb:Nat}{a b c d:Int}(h:EvO w eb a b c d)(x:Int):EvO (w.setCell ⟨eb,2,none⟩ (.int .i64 x)) eb a b x d:=
 ⟨by rw[World.cell?_setCell_other _ _ _ _ (by simp)];exact h.c0,by rw[World.cell?_setCell_other _ _ _ _ (by simp)];exact h.c1,World.cell?_setCell_same' _ _ _ (h.room 2 (by omega)).1,by rw[World.cell?_setCell_other _ _ _ _ (by simp)];exact h.c3,h.room.setCell _ _⟩
theorem EvO.set3{w:World}{eb:Nat}{a b c d:Int}(h:EvO w eb a b c d)(x:Int):EvO (w.setCell ⟨eb,3,none⟩ (.int .i64 x)) eb a b c x:=
 ⟨by rw[World.cell?_setCell_other _ _ _ _ (by simp)];exact h.c0,by rw[World.cell?_setCell_other _ _ _ _ (by simp)];exact h.c1,by rw[World.cell?_setCell_other _ _ _ _ (by simp)];exact h.c2,World.cell?_setCell_same' _ _ _ (h.room 3 (by omega)).1,h.room.setCell _ _⟩
section
variable {R : Nat → Prop} {lo : Nat} {w0 w w' : World} {rb gb db eb : Nat} {ents : Int} {ks : List (List Ins)} {draws : List Int} {s : KS} {qv : Value} {m : Nat} {all l l' : List Int} {bad bad' : Bool}
structure Oth(R:Nat→Prop)(lo:Nat)(rb gb db:Nat)(qv:Value)(eb:Nat):Prop where
 set:¬LkP.Set rb gb qv eb
 r:¬R eb
 d:eb≠db
 lo:lo≤eb
theorem LdS.other(h:LdS R lo w0 w rb gb db ents ks draws s qv m all l bad)(he:Oth R lo rb gb db qv eb)(ho:Only (·=eb) w w'):LdS R lo w0 w' rb gb db ents ks draws s qv m all l bad:=by
 have hz:=ho.size;refine⟨h.bel.trans (ho.below h.los.2.2.2 (fun k hk hc=>by have:=he.lo;omega)),h.ker.only ho (fun b hb hc=>he.set (hc▸hb)) (fun b hb hc=>he.r (hc▸hb)),h.rd.only ho (fun hc=>he.d hc.symm),h.sep,h.rsep,⟨h.los.1,h.los.2.1,h.los.2.2.1,by have:=h.los.2.2.2;omega⟩⟩
theorem LdS.oth(h:LdS R lo w0 w rb gb db ents ks draws s qv m all l bad):Oth R lo rb gb db qv w.heap.size:=by
 have h1:=h.ker.rlt;have h2:=h.ker.glt;have h3:=h.rd.lt;refine⟨?_,fun hc=>by have:=(h.ker.far _ hc).1;omega,by omega,h.los.2.2.2⟩
 rintro (e|e|e)
 ·omega
 ·omega
 ·have:=(h.ker.que.lt _ e.symm).2;omega
theorem LdS.num(h:LdS R lo w0 w rb gb db ents ks draws s qv m all l bad)(hv:∀ c∈all,0≤c∧c<256)(hl:all.length≤1000000000)(low high:Int) :
  Calls Tryz.prog 67 #[.pointer (some ⟨db,0,none⟩),.int .i64 low,.int .i64 high] w fun e w'=>e=.returned (.int .i64 (aW low high l bad).1)∧Only (·=db) w w'∧LdS R lo w0 w' rb gb db ents ks draws s qv m all (aW low high l bad).2.1 (aW low high l bad).2.2:=by
 refine(mY db all l bad low high w h.rd hv hl).mono ?_;rintro e w' ⟨rfl,ho,hr⟩;exact⟨rfl,ho,h.read ho hr⟩
theorem LdS.bytes(h:LdS R lo w0 w rb gb db ents ks draws s qv m all l bad)(hv:∀ c∈all,0≤c∧c<256):∀ c∈l,0≤c∧c<256:=h.rd.bytes hv
end
structure QuI(R:Nat→Prop)(lo:Nat)(w0 wr:World)(rb gb db:Nat)(ents:Int)(ks:List (List Ins))(draws:List Int)(s:KS)(m:Nat)(all:List Int)(N:Nat)(RES:List Ev×List Int×Bool)(i:Nat)(t:Int)(q:List Ev)(qv:Value)(l:List Int)(bad:Bool):Prop where
 ld:LdS R lo w0 wr rb gb db ents ks draws {s with q:=q} qv m all l bad
 len:q.length=i
 ok:bad=false→N≤16∧0≤t∧t≤1000000000000
 res:quL ents ks.length s.next (N-i) t q l bad=RES
theorem aAv{R:Nat→Prop}{lo:Nat}{w0:World}(rb gb db:Nat)(ents:Int)(ks:List (List Ins))(draws:List Int)(s:KS)(qv:Value)(m:Nat)(all l:List Int)(w:World)(h:LdS R lo w0 w rb gb db ents ks draws s qv m all l false)(hv:∀ c∈all,0≤c∧c<256)(hl:all.length≤1000000000)(hq:s.q=[])(he:1≤ents∧ents≤8)(hk8:ks.length≤8)(hn:1≤s.next∧s.next≤1000000000)(hc:0≤s.clock∧s.clock≤1000000000000)
  (RES:List Ev×List Int×Bool) (hRES:RES=quL ents ks.length s.next (aW 0 16 l false).1.toNat s.clock [] (aW 0 16 l false).2.1 (aW 0 16 l false).2.2) :
  Calls Tryz.prog 69 #[.pointer (some ⟨rb,0,none⟩),.pointer (some ⟨db,0,none⟩)] w fun e w'=>e=.returned (.tuple #[])∧∃ qv',LdS R lo w0 w' rb gb db ents ks draws {s with q:=RES.1} qv' m all RES.2.1 RES.2.2:=by
 have Hv:=aB hv;have hN:=h.num hv hl 0 16;have hrg:=eC 0 16 l false (h.bytes hv);have hgd:=bJ (lo:=0) (hi:=16) (l:=l) (bad:=false);generalize aW 0 16 l false=r at hN hrg hRES hgd;obtain⟨n,l1,f1⟩:=r;simp only at hN hrg hRES hgd;obtain⟨N,rfl⟩:∃ N:Nat,n=N:=⟨n.toNat,by omega⟩
 simp only[Int.toNat_natCast]at hRES;have HS:Hid (∀ w1,LdS R lo w0 w1 rb gb db ents ks draws s qv m all l1 f1→QuI R lo w0 w1 rb gb db ents ks draws s m all N RES 0 s.clock [] qv l1 f1):=by
  intro w1 h1;refine⟨?_,rfl,fun hf=>⟨by have:=(hgd hf).2.2;omega,hc⟩,by rw[hRES];rfl⟩
  have:({s with q:=[]}:KS)=s:=by rw[←hq]
  rw[this];exact h1
 have HN:=aB hN;have hdl:=h.rd.lt;have hrl:=h.ker.rlt;have hne:db≠rb:=fun e=>h.sep (.inl e);have c4:=h.ker.c4;have Hz:Hid (w.heap.size≤w.heap.size):=Nat.le_refl _;clear h hv hN hRES hgd hq
 go_enter Tryz.func69,Tryz.ntmps69
 go_wp2_with (go_at_call 67;refine HN.out.mono ?_;rintro e w1 ⟨rfl,ho1,hL1⟩;(have d4:=hL1.ker.c4);(have HL1:=aB (HS.out _ hL1));clear hL1)
 have hz1:=ho1.size;clear ho1 HN HS c4 d4;have hN2:(N:Int)<562949953421312:=hrg.2;clear hrg
 go_loopg [5,6,7,8] (N+3) (fun g s5 s6 _ _ wr=>∃ (i:Nat) (t:Int) (q:List Ev) (qv:Value) (l:List Int) (bad:Bool),s5=.int .i64 t∧s6=.int .i64 i∧N-i+2≤g∧i≤N∧Hid (QuI R lo w0 wr rb gb db ents ks draws s m all N RES i t q qv l bad))
 case atStart=>exact⟨0,s.clock,[],qv,l1,f1,rfl,rfl,by omega,by omega,HL1.out⟩
 case round=>
  obtain⟨i,t,q,qv,l,bad,rfl,rfl,hg,hi,hI⟩:=hrel;clear HL1;have k2:=hI.out.ld.rd.bad
  by_cases hlt:i<N
  ·have d1:decide ((i:Int)<(N:Int))=true:=by simp;omega
   rcases bad with _|_
   ·obtain⟨hN16,ht0,ht1⟩:=hI.out.ok rfl;have hii:(i:Int)<(N:Int):=by omega
    have hw:IntKind.i64.wrap ((i:Int)+1)=(i:Int)+1:=by rw[IntKind.wrap_i64];omega
    have hbl:=hI.out.ld.bytes Hv.out;rcases ea:aW 0 1000000000000 l false with⟨v1,l1,f1⟩;have hb1:=bC (lo:=0) (hi:=1000000000000) (bad:=false) hbl;have hr1:=eC 0 1000000000000 l false hbl;rw[ea]at hb1 hr1;simp only at hb1 hr1;rcases eb:aW 1 (s.next-1) l1 f1 with⟨v2,l2,f2⟩
    have hb2:=bC (lo:=1) (hi:=s.next-1) (bad:=f1) hb1
    have hr2:=eC 1 (s.next-1) l1 f1 hb1
    rw[eb]at hb2 hr2;simp only at hb2 hr2;rcases ec:aW 0 ((ks.length:Int)-1) l2 f2 with⟨v3,l3,f3⟩;have hb3:=bC (lo:=0) (hi:=(ks.length:Int)-1) (bad:=f2) hb2;have hr3:=eC 0 ((ks.length:Int)-1) l2 f2 hb2;rw[ec]at hb3 hr3;simp only at hb3 hr3;rcases ed:aW 0 (ents-1) l3 f3 with⟨v4,l4,f4⟩;have HE:Hid (evL ents ks.length s.next t l false=(⟨t+v1,v2,v3,v4⟩,l4,f4)):=by show _=_;simp[evL,ea,eb,ec,ed]
    have HA:=aB ea;have HBb:=aB eb;have HCc:=aB ec;have HDd:=aB ed;clear ea eb ec ed hb1 hb2 hb3 hbl;have hadd:wrap64 (t+v1)=t+v1:=by simp only[wrap64];omega
    have hw3:wrap64 (s.next-1)=s.next-1:=by simp only[wrap64];omega
    have hw4:wrap64 ((ks.length:Int)-1)=(ks.length:Int)-1:=by simp only[wrap64];omega
    have hw5:wrap64 (ents-1)=ents-1:=by simp only[wrap64];omega
    have HO:=aB hI.out.ld.oth;obtain⟨E,hE⟩:∃ E,E=wr.heap.size:=⟨_,rfl⟩;rw[←hE]at HO;obtain⟨W1,hW1⟩:∃ W1,W1=wr.alloc (.cells #[.int .i64 0,.int .i64 0,.int .i64 0,.int .i64 0] 143):=⟨_,rfl⟩;have HLa:Hid (LdS R lo w0 W1 rb gb db ents ks draws {s with q:=q} qv m all l false):=by rw[hW1];exact hI.out.ld.fresh (aE _ _)
    have HEa:Hid (EvO W1 E 0 0 0 0):=by rw[hW1,hE];exact EvO.new _ _
    have HW1:=aB hW1;have HEq:Hid (E=wr.heap.size):=hE;have HQI:Hid (q.length=i∧quL ents ks.length s.next (N-i) t q l false=RES):=⟨hI.out.len,hI.out.res⟩
    clear hW1 hI
    go_wp2_with fail
    rw[←HW1.out,←HEq.out];clear hE;have hEd:E≠db:=HO.out.d;have hEr:E≠rb:=fun hc=>HO.out.set (.inl hc);have hrE:rb≠E:=Ne.symm hEr;refine(HLa.out.num Hv.out hl 0 1000000000000).mono ?_;rw[HA.out];rintro e w1 ⟨rfl,ho1,hL1⟩;simp only at hL1 ⊢;have HEb:=aB (HEa.out.only ho1 hEd);have f0:=(HEb.out.room 0 (by omega)).2
    have x0:=HEb.out.c0;have y5:=hL1.ker.c5;have HLc:Hid (LdS R lo w0 (w1.setCell ⟨E,0,none⟩ (.int .i64 (t+v1))) rb gb db ents ks draws {s with q:=q} qv m all l1 f1):=hL1.other HO.out (Only.setCell (S:=(·=E)) (Only.refl _ _) rfl _)
    have HEc:=aB (HEb.out.set0 (t+v1));clear ho1 hL1 HLa HEa HEb
    go_wp2_with fail
    generalize hW2:w1.setCell ⟨E,0,none⟩ (.int .i64 (t+v1))=W2 at HLc HEc ⊢;clear hW2 f0 x0 y5 w1;refine(HLc.out.num Hv.out hl 1 (s.next-1)).mono ?_
    rw[HBb.out];rintro e w2 ⟨rfl,ho2,hL2⟩;simp only at hL2 ⊢;have HEd:=aB (HEc.out.only ho2 hEd);have f1':=(HEd.out.room 1 (by omega)).2
    have x1:=HEd.out.c1;obtain⟨kv,y1,hkin⟩:=hL2.ker.kinds;obtain⟨ka,kc,rfl⟩:=hkin.form;have HLe:Hid (LdS R lo w0 (w2.setCell ⟨E,1,none⟩ (.int .i64 v2)) rb gb db ents ks draws {s with q:=q} qv m all l2 f2):=hL2.other HO.out (Only.setCell (S:=(·=E)) (Only.refl _ _) rfl _)
    have HEe:=aB (HEd.out.set1 v2);clear ho2 hL2 HLc HEc HEd hkin
    go_wp2_with fail
    generalize hW3:w2.setCell ⟨E,1,none⟩ (.int .i64 v2)=W3 at HLe HEe ⊢;clear hW3 f1' x1 y1 w2;refine(HLe.out.num Hv.out hl 0 ((ks.length:Int)-1)).mono ?_;rw[HCc.out];rintro e w3 ⟨rfl,ho3,hL3⟩;simp only at hL3 ⊢;have HEf:=aB (HEe.out.only ho3 hEd);have f2':=(HEf.out.room 2 (by omega)).2
    have x2:=HEf.out.c2;have y0:=hL3.ker.c0;have HLg:Hid (LdS R lo w0 (w3.setCell ⟨E,2,none⟩ (.int .i64 v3)) rb gb db ents ks draws {s with q:=q} qv m all l3 f3):=hL3.other HO.out (Only.setCell (S:=(·=E)) (Only.refl _ _) rfl _)
    have HEg:=aB (HEf.out.set2 v3);clear ho3 hL3 HLe HEe HEf
    go_wp2_with fail
    generalize hW4:w3.setCell ⟨E,2,none⟩ (.int .i64 v3)=W4 at HLg HEg ⊢;clear hW4 f2' x2 y0 w3;refine(HLg.out.num Hv.out hl 0 (ents-1)).mono ?_;rw[HDd.out];rintro e w4 ⟨rfl,ho4,hL4⟩;simp only at hL4 ⊢;have HEh:=aB (HEg.out.only ho4 hEd);have f3':=(HEh.out.room 3 (by omega)).2
    have x3:=HEh.out.c3;have HLi:Hid (LdS R lo w0 (w4.setCell ⟨E,3,none⟩ (.int .i64 v4)) rb gb db ents ks draws {s with q:=q} qv m all l4 f4):=hL4.other HO.out (Only.setCell (S:=(·=E)) (Only.refl _ _) rfl _)
    have HEi:=aB (HEh.out.set3 v4);clear ho4 hL4 HLg HEg HEh
    go_wp2_with fail
    generalize hW5:w4.setCell ⟨E,3,none⟩ (.int .i64 v4)=W5 at HLi HEi ⊢;clear hW5 f3' x3 w4 HA HBb HCc HDd W4 W3 W2;have hql:=HQI.out.1;obtain⟨qa,qc,rfl⟩:=aM HLi.out.ker.que;have HQL:=aB hql;clear hql
    go_loopg [8] (i+3) (fun g s8 wx=>∃ (j:Nat) (f:Bool),s8=.int .i64 j∧i-j+2≤g∧j≤i∧Hid (f=(f4||kJ v2 (q.take j))∧LdS R lo w0 wx rb gb db ents ks draws {s with q:=q} (.slice qa q.length qc) m all l4 f∧EvO wx E (t+v1) v2 v3 v4))
    case atStart=>exact⟨0,f4,rfl,by omega,by omega,by simp[kJ],HLi.out,HEi.out⟩
    case round=>
     obtain⟨j,f,rfl,hgj,hji,hJ⟩:=hrel;have c7:=hJ.out.2.1.ker.c7;rename World=>wx
     by_cases hjl:j<q.length
     ·have d2:decide ((j:Int)<(q.length:Int))=true:=by simp;omega
      have hjj:(j:Int)<(q.length:Int):=by omega
      have hjw:IntKind.i64.wrap ((j:Int)+1)=(j:Int)+1:=by rw[IntKind.wrap_i64];have:=HQL.out;omega
      obtain⟨qb,rfl,cq⟩:∃ qb,qa=some ⟨qb,0,none⟩∧wx.cell? ⟨qb,j*4+1,none⟩=some (.int .i64 q[j].number):=by
       rcases bK hJ.out.2.1.ker.que with⟨_,h0,_⟩|⟨g,cap,h1,_,_,hr⟩
       ·simp only at h0;omega
       ·simp only[Value.slice.injEq]at h1;refine⟨g,h1.1,?_⟩;have:=hr (j*4+1) (.int .i64 q[j].number) (by rw[lV _ j 1 (by omega)];simp[hjl,cP,aR])
        rwa [Nat.zero_add]at this
      have cb:=hJ.out.2.1.rd.bad;have fb:=(hJ.out.2.1.rd.room 2 (by omega)).2
      have ce:=hJ.out.2.2.c1;have HN:Hid (∀ b,b=(f||decide (q[j].number=v2))→(b=(f4||kJ v2 (q.take (j+1)))∧LdS R lo w0 (wx.setCell ⟨db,2,none⟩ (.bool b)).drew rb gb db ents ks draws {s with q:=q} (.slice (some ⟨qb,0,none⟩) q.length qc) m all l4 b∧EvO (wx.setCell ⟨db,2,none⟩ (.bool b)).drew E (t+v1) v2 v3 v4)):=by
       intro b hb;have hb0:Below (wx.setCell ⟨db,2,none⟩ (.bool b)).heap.size (wx.setCell ⟨db,2,none⟩ (.bool b)) (wx.setCell ⟨db,2,none⟩ (.bool b)).drew:=(Below.refl _ _).drew;have ho:Only (·=db) wx (wx.setCell ⟨db,2,none⟩ (.bool b)):=Only.setCell (S:=(·=db)) (Only.refl _ _) rfl _
       refine⟨?_,(hJ.out.2.1.read ho (hJ.out.2.1.rd.mark _)).fresh hb0,(hJ.out.2.2.only ho hEd).only (Only.new (S:=fun _=>False) hb0) (by simp)⟩
       rw[hb,List.take_succ_eq_append_getElem hjl,kJ,List.any_append,hJ.out.1,kJ];simp[Bool.or_assoc]
      generalize q[j].number=x at cq HN;have hji':j<i:=by have:=HQL.out;omega
      clear hJ;rcases f with _|_
      ·go_wp2_with fail
       go_region
       go_wp2_with fail
       go_roundg (i-(j+1)+2)
       case measure=>omega
       case rel=>
        have hq:=HN.out (x==v2) (by simp;rfl)
        exact⟨j+1,_,by go_num,Nat.le_refl _,by omega,hq⟩
      ·go_wp2_with fail
       go_region
       go_wp2_with fail
       go_roundg (i-(j+1)+2)
       case measure=>omega
       case rel=>
        have hq:=HN.out true (by simp)
        exact⟨j+1,_,by go_num,Nat.le_refl _,by omega,hq⟩
     ·have d2:decide ((j:Int)<(q.length:Int))=false:=by simp;omega
      have hf:f=(f4||kJ v2 q):=by rw[hJ.out.1,List.take_of_length_le (by omega)]
      have HF:=aB hf;have HL5:=aB hJ.out.2.1;have HE5:=aB hJ.out.2.2;have e0:=HE5.out.c0;have e1:=HE5.out.c1;clear hf hJ
      go_upto_region 14 with fail
      go_cut [115] (fun s115 wy=>s115=.bool (cZ t q ⟨t+v1,v2,v3,v4⟩)∧Hid (LdS R lo w0 wy rb gb db ents ks draws {s with q:=q} (.slice qa q.length qc) m all l4 f∧EvO wy E (t+v1) v2 v3 v4))
      case first=>
       have HOut:Hid (∀ k,LdS R lo w0 (wx.drewN k) rb gb db ents ks draws {s with q:=q} (.slice qa q.length qc) m all l4 f∧EvO (wx.drewN k) E (t+v1) v2 v3 v4):=fun k=>⟨HL5.out.fresh (below_drewN (Below.refl _ _) k),HE5.out.only (Only.new (S:=fun _=>False) (below_drewN (Below.refl _ _) k)) (by simp)⟩
       by_cases hA:1000000000000<t+v1
       ·have dA:decide (1000000000000<t+v1)=true:=by simpa using hA
        have HW:Hid (cZ t q ⟨t+v1,v2,v3,v4⟩=true):=by show _=_;simp[cZ,hA]
        clear hA
        go_quiet (fail)
        go_wp2
        go_meet;exact⟨by rw[HW.out],HOut.out _⟩
       ·have dA:decide (1000000000000<t+v1)=false:=by simpa using hA
        by_cases hB:0<i
        ·obtain⟨k,hk⟩:∃ k,i=k+1:=⟨i-1,by omega⟩
         have hqk:k<q.length:=by have:=HQL.out;omega
         have HLast:Hid (mN q=q[k].number):=by
          show _=_;unfold mN;rw[List.getLast?_eq_getElem?,show q.length-1=k by have:=HQL.out;omega,List.getElem?_eq_getElem hqk]
          rfl
         obtain⟨qb,rfl,cq⟩:∃ qb,qa=some ⟨qb,0,none⟩∧wx.cell? ⟨qb,k*4+1,none⟩=some (.int .i64 q[k].number):=by
          rcases bK HL5.out.ker.que with⟨_,h0,_⟩|⟨g,cap,h1,_,_,hr⟩
          ·simp only at h0;omega
          ·simp only[Value.slice.injEq]at h1;refine⟨g,h1.1,?_⟩;have:=hr (k*4+1) (.int .i64 q[k].number) (by rw[lV _ k 1 (by omega)];simp[hqk,cP,aR])
           rwa [Nat.zero_add]at this
         have dB:decide ((0:Int)<(i:Int))=true:=by simp;omega
         have dB2:decide (0<i)=true:=by simp;omega
         have HWf:Hid (cZ t q ⟨t+v1,v2,v3,v4⟩=(decide (t+v1=t)&&decide (v2<q[k].number))):=by
          show _=_;unfold cZ;rw[HLast.out,decide_eq_false hA,decide_eq_true (show 0<q.length by omega)]
          simp
         have hsub:wrap64 ((i:Int)-1)=(k:Int):=by simp only[wrap64];omega
         have hsub2:IntKind.i64.wrap ((i:Int)-1)=(k:Int):=by rw[IntKind.wrap_i64];omega
         have hkq:(k:Int)<(q.length:Int):=by omega
         have HK:=aB hk;generalize q[k].number=z at cq HWf;clear hA hB hk HLast hqk
         by_cases hC:t+v1=t
         ·have dC:(t+v1==t)=true:=by simpa using hC
          by_cases hD:v2<z
          ·have dD:decide (v2<z)=true:=by simpa using hD
           have HW:Hid (cZ t q ⟨t+v1,v2,v3,v4⟩=true):=by show _=_;rw[HWf.out];simp[hC,hD]
           clear hC hD HWf
           go_quiet (fail)
           go_wp2
           go_meet;exact⟨by rw[HW.out],HOut.out _⟩
          ·have dD:decide (v2<z)=false:=by simpa using hD
           have HW:Hid (cZ t q ⟨t+v1,v2,v3,v4⟩=false):=by show _=_;rw[HWf.out];simp[hD]
           clear hC hD HWf
           go_quiet (fail)
           go_wp2
           go_meet;exact⟨by rw[HW.out],HOut.out _⟩
         ·have dC:(t+v1==t)=false:=by simpa using hC
          have HW:Hid (cZ t q ⟨t+v1,v2,v3,v4⟩=false):=by show _=_;rw[HWf.out];simp;omega
          clear hC HWf
          go_quiet (fail)
          go_wp2
          go_meet;exact⟨by rw[HW.out],HOut.out _⟩
        ·have dB:decide ((0:Int)<(i:Int))=false:=by simp;omega
         have dB2:decide (0<i)=false:=by simp;omega
         have HW:Hid (cZ t q ⟨t+v1,v2,v3,v4⟩=false):=by
          show _=_;unfold cZ;rw[decide_eq_false hA,decide_eq_false (show ¬0<q.length by have:=HQL.out;omega)]
          rfl
         clear hA hB
         go_quiet (fail)
         go_wp2
         go_meet;exact⟨by rw[HW.out],HOut.out _⟩
      case rest=>
       obtain⟨rfl,hy⟩:=hcut;have HNX:Hid (∀ (W':World) (qv':Value) (f6:Bool),f6=(f||cZ t q ⟨t+v1,v2,v3,v4⟩)→LdS R lo w0 W' rb gb db ents ks draws {s with q:=q++[⟨t+v1,v2,v3,v4⟩]} qv' m all l4 f6→QuI R lo w0 W' rb gb db ents ks draws s m all N RES (i+1) (t+v1) (q++[⟨t+v1,v2,v3,v4⟩]) qv' l4 f6):=by
        intro W' qv' f6 hf6 hld;refine⟨hld,by rw[List.length_append,HQL.out];rfl,?_,?_⟩
        ·intro h6;rw[h6]at hf6;have hw6:cZ t q ⟨t+v1,v2,v3,v4⟩=false:=by
          cases hx:cZ t q ⟨t+v1,v2,v3,v4⟩
          ·rfl
          ·rw[hx]at hf6;simp at hf6
         unfold cZ at hw6;simp only[Bool.or_eq_false_iff,decide_eq_false_iff_not]at hw6;exact⟨hN16,by omega,by have:=hw6.1;omega⟩
        ·rw[←HQI.out.2,show N-i=(N-(i+1))+1 by omega,quL,if_neg (by simp),HE.out,hf6,HF.out]
       have HL6:=aB hy.out.1;have HE6:=aB hy.out.2;clear hy HL5 HE5 e0 e1 c7;rename World=>wc;have HSt:Hid (LdS R lo w0 (wc.setCell ⟨db,2,none⟩ (.bool true)) rb gb db ents ks draws {s with q:=q} (.slice qa q.length qc) m all l4 true∧EvO (wc.setCell ⟨db,2,none⟩ (.bool true)) E (t+v1) v2 v3 v4):=by
        have ho:Only (·=db) wc (wc.setCell ⟨db,2,none⟩ (.bool true)):=Only.setCell (S:=(·=db)) (Only.refl _ _) rfl _
        exact⟨HL6.out.read ho (HL6.out.rd.mark _),HE6.out.only ho hEd⟩
       have cb:=HL6.out.rd.bad;have fb:=(HL6.out.rd.room 2 (by omega)).2
       obtain⟨f6,wz,hf6,hLz,hEz,hsel⟩:∃ f6 wz,f6=(f||cZ t q ⟨t+v1,v2,v3,v4⟩)∧LdS R lo w0 wz rb gb db ents ks draws {s with q:=q} (.slice qa q.length qc) m all l4 f6∧EvO wz E (t+v1) v2 v3 v4∧wz=(if cZ t q ⟨t+v1,v2,v3,v4⟩then wc.setCell ⟨db,2,none⟩ (.bool true)else wc):=by
        cases hx:cZ t q ⟨t+v1,v2,v3,v4⟩
        ·exact⟨f,wc,by simp,HL6.out,HE6.out,by simp⟩
        ·exact⟨true,_,by simp,HSt.out.1,HSt.out.2,by simp⟩
       have Hf6:=aB hf6;have HLz:=aB hLz;have HEz:=aB hEz;have Hsel:=aB hsel;have z7:=hLz.ker.c7;have hzl:=hLz.ker.rlt;have hEl:E<wz.heap.size:=aC hEz.c0;have g0:=hEz.c0;have g1:=hEz.c1;have g2:=hEz.c2;have g3:=hEz.c3;have HOwn:Hid (∀ W',Below wz.heap.size wz W'→W'.ownsRow lo 143 4 (.slice qa q.length qc) q.length (aO (q.map aR))):=fun W' hb=>aN hLz.ker.que (Only.new (S:=fun _=>False) hb) (by simp)
       have HLo:Hid (lo≤wz.heap.size):=hLz.los.2.2.2;have HQr:Hid (some rb≠(Value.slice qa q.length qc).ownBlock∧some E≠(Value.slice qa q.length qc).ownBlock):=⟨hLz.ker.qr,fun hc=>HO.out.set (.inr (.inr hc))⟩;have HRoom:Hid (Room wz rb 8):=hLz.ker.room;have hq16:q.length≤16:=by have:=HQL.out;omega
       have HEnd:Hid (∀ (W w2:World) (qv2:Value),Below wz.heap.size wz W→W.grownBy w2 (Value.slice qa q.length qc).ownBlock→w2.ownsRow lo 143 4 qv2 (q.length+1) (aO (q.map aR)++aO [aR ⟨t+v1,v2,v3,v4⟩])→(qv2.ownBlock=(Value.slice qa q.length qc).ownBlock∨qv2.ownBlock=some W.heap.size)→QuI R lo w0 (w2.setCell ⟨rb,7,none⟩ qv2) rb gb db ents ks draws s m all N RES (i+1) (t+v1) (q++[⟨t+v1,v2,v3,v4⟩]) qv2 l4 f6):=
        fun W w2 qv2 hW hg hown hwh=>HNX.out _ _ _ Hf6.out (HLz.out.push hW hg hown hwh)
       have HC7:Hid (∀ W w2,Below wz.heap.size wz W→W.grownBy w2 (Value.slice qa q.length qc).ownBlock→w2.cell? ⟨rb,7,none⟩=some (.slice qa q.length qc)∧w2.frozen? ⟨rb,7,none⟩=false∧w2.cell? ⟨E,0,none⟩=some (.int .i64 (t+v1))):=by
        intro W w2 hb hg;have ho:Only (fun b=>some b=(Value.slice qa q.length qc).ownBlock) wz w2:=(Only.new hb).trans (aF hg);exact⟨ho.at z7 HQr.out.1,((HRoom.out.only ho HQr.out.1) 7 (by omega)).2,ho.at g0 HQr.out.2⟩
       clear hf6 hLz hEz hsel HSt HNX HL6 HE6;rcases hwr:cZ t q ⟨t+v1,v2,v3,v4⟩with _|_
       all_goals
        have hsel:=Hsel.out;rw[hwr]at hsel;simp only[Bool.false_eq_true,if_false,if_true]at hsel;have Hsel2:=aB hsel;clear hsel hwr
        go_upto_region 16 with fail
        rw[←Hsel2.out];clear Hsel2 Hsel cb fb HE HQI HF
        go_region_law (first|(refine cQ rfl (.tmp 123) (.tmp 125) 115 rfl lo 143 (.agg #[.int .i64 0,.int .i64 0,.int .i64 0,.int .i64 0]) 4 32 Tryz.underlying115 Tryz.info129 rfl (by omega) (.slice qa q.length qc) q.length (aO (q.map aR)) rfl (HOwn.out _ (by first|exact(aE _ _).drew|exact((Below.refl _ _).drew).alloc (Nat.le_refl _) _|exact aE _ _)) _ 1 (aO [aR ⟨t+v1,v2,v3,v4⟩]) rfl (.inr (.inl ⟨wz.heap.size,0,1,rfl,bD _ _ (aO [aR ⟨t+v1,v2,v3,v4⟩])⟩)) rfl (by intro u hu;simp[aO,cP,aR]at hu;rcases hu with rfl|rfl|rfl|rfl<;>rfl) (by omega) (by omega) (by have:=HLo.out;simp;omega) ?_;intro qv2 w2 hown2 hgr2 hwh2;obtain⟨k7,f7,k0⟩:=HC7.out _ w2 (by first|exact(aE _ _).drew|exact((Below.refl _ _).drew).alloc (Nat.le_refl _) _|exact aE _ _) hgr2.out;obtain⟨sa2,sc2,rfl⟩:=aM hown2.out))
        all_goals
         have HQ6:=aB (HEnd.out _ w2 _ (by first|exact(aE _ _).drew|exact((Below.refl _ _).drew).alloc (Nat.le_refl _) _|exact aE _ _) hgr2.out hown2.out hwh2.out)
         clear hown2 hgr2 hwh2
         go_wp2_with fail
         go_roundg (N-(i+1)+2)
         case measure=>omega
         case rel=>exact⟨i+1,t+v1,_,_,l4,f6,rfl,by go_num,Nat.le_refl _,by omega,HQ6.out⟩
   ·have HR:Hid (RES=(q,l,true)):=by show _=_;rw[←hI.out.res,aFv]
    go_wp2_with fail
    refine bodyPost_end (results_none rfl _ _ _) rfl ?_;rw[HR.out];exact⟨rfl,qv,hI.out.ld⟩
  ·have d1:decide ((i:Int)<(N:Int))=false:=by simp;omega
   have HR:Hid (RES=(q,l,bad)):=by show _=_;rw[←hI.out.res,show N-i=0 by omega];rfl
   go_wp2_with fail
   refine bodyPost_end (results_none rfl _ _ _) rfl ?_;rw[HR.out];exact⟨rfl,qv,hI.out.ld⟩
end Go.Proofs.YtndlmgocldckfaaGreat
