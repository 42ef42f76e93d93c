import Derived.Test.YtndlmgocldckfaaGreatG33
import Derived.Test.YtndlmgocldckfaaGreatG03
import Derived.Test.YtndlmgocldckfaaGreatG27
namespace Go.Proofs.YtndlmgocldckfaaGreat
open Go.RowKit
set_option linter.unusedVariables false
set_option linter.unusedSimpArgs false
set_option maxRecDepth 100000
set_option maxHeartbeats 4000000
def fB:Nat→Int→List Int→Bool→List Rec×List Int×Bool
 | 0,_,l,f=>([],l,f)
 | n+1,t,l,f=>((cV t l f).1::(fB n (cV t l f).1.e.time (cV t l f).2.1 (cV t l f).2.2).1,(fB n (cV t l f).1.e.time (cV t l f).2.1 (cV t l f).2.2).2)
def dP(l:List Int):List Rec×List Int×Bool:=fB (aL 0 1000 l false).1.toNat 0 (aL 0 1000 l false).2.1 (aL 0 1000 l false).2.2
theorem aAn(t:Int)(l:List Int)(f:Bool)(ht:0≤t∧t≤1000000000000):t≤(cV t l f).1.e.time∧(cV t l f).1.e.time≤1000000000000:=by
 have:=dU 0 (1000000000000-t) (by omega) l f
 simp only[cV];omega
theorem aCs(rb g:Nat)(l:List Int)(w:World)(h:RdP w rb g l false) :
  Calls Tryz.prog 70 #[.pointer (some ⟨rb,0,none⟩)] w fun e w'=>∃ lv L,e=.returned lv∧Only (·=rb) w w'∧RdP w' rb g (dP l).2.1 (dP l).2.2∧AllR w' w.heap.size lv L (dP l).1∧ApartR L:=by
 have H:=aB h;have hrl:=h.lt;have hgl:=h.glt;have g1:=dU 0 1000 (by omega) l false
 have HE:Hid (dP l=fB (aL 0 1000 l false).1.toNat 0 (aL 0 1000 l false).2.1 (aL 0 1000 l false).2.2):=by show _=_;rfl
 generalize dP l=out at HE ⊢;generalize hA:aL 0 1000 l false=A at HE g1;obtain⟨v1,l1,f1⟩:=A;simp only at HE g1;obtain⟨N,rfl⟩:=Int.eq_ofNat_of_zero_le (show 0≤v1 by omega)
 rw[Int.toNat_natCast]at HE;have hN:N≤1000:=by omega
 have HA:=aB hA;clear h hA g1
 go_enter Tryz.func70,Tryz.ntmps70
 go_wp2_with fail
 refine(cN rb g l false _ _ w H.out).mono ?_;rintro e w1 ⟨rfl,ho1,hr1⟩;rw[HA.out]at hr1 ⊢;simp only at hr1 ⊢;have HO1:=aB ho1;have HR1:=aB hr1;clear ho1 hr1
 go_wp2_with fail
 go_loopg [3,4,8] (N+3) (fun gf s3 s4 s8 wx=>∃ (i:Nat) (lv:Value) (t:Int) (L:List RecC) (rs:List Rec) (lk:List Int) (fk:Bool),s8=.int .i64 i∧s3=lv∧s4=.int .i64 t∧N-i+2≤gf∧i≤N∧0≤t∧t≤1000000000000∧Hid (L.length=i∧Only (·=rb) w wx∧RdP wx rb g lk fk∧AllR wx w.heap.size lv L rs∧ApartR L∧rs++(fB (N-i) t lk fk).1=out.1∧(fB (N-i) t lk fk).2=out.2))
 case atStart=>exact⟨0,_,0,[],[],l1,f1,rfl,rfl,rfl,by omega,by omega,by omega,by omega,rfl,HO1.out,HR1.out,AllR.nil _ _,by intro j k x y b hx;simp at hx,by rw[HE.out];simp,by rw[HE.out];simp⟩
 case round=>
  obtain⟨i,lv,t,L,rs,lk,fk,rfl,rfl,rfl,hgf,hi,ht0,ht1,hI⟩:=hrel
  by_cases hlt:i<N
  ·have d1:decide ((i:Int)<(N:Int))=true:=by simp;omega
   have hw:IntKind.i64.wrap ((i:Int)+1)=(i:Int)+1:=by rw[IntKind.wrap_i64];omega
   obtain⟨hLi,hO,hR,hA,hAp,hq1,hq2⟩:=hI.out;rw[show N-i=(N-(i+1))+1 by omega,fB]at hq1 hq2
   simp only at hq1 hq2;have hLl:L.length+1≤1000:=by omega
   have HLi:=aB hLi;have HO:=aB hO;have HR:=aB hR;have HA2:=aB hA;have HAp:=aB hAp;have Hq1:=aB hq1;have Hq2:=aB hq2;have hzr:=hO.size;have htm:=aAn t lk fk ⟨ht0,ht1⟩;clear hLi hO hR hA hAp hq1 hq2 hI;obtain⟨sa0,sc0,hlv⟩:=dE HA2.out.row;subst hlv
   go_wp2_with fail
   refine(aEf rb g lk fk t wr HR.out ⟨ht0,ht1⟩).mono ?_;rintro e w2 ⟨sa,sc,rfl,ho2,hr2,hrow2⟩;generalize cV t lk fk=o at Hq1 Hq2 htm hr2 hrow2 ⊢;obtain⟨⟨⟨rt,rn,rk,re⟩,told⟩,l2,f2⟩:=o;simp only at Hq1 Hq2 htm hr2 hrow2 ⊢;have hz2:=ho2.size;have HA3:Hid (AllR w2 w.heap.size (.slice sa0 L.length sc0) L rs):=HA2.out.only ho2 (fun b hb hc=>by have:=(HA2.out.lt b hb).1;omega)
   have HO2:=aB (HO.out.trans ho2);have HR2:=aB hr2;have Hrow2:=aB hrow2;clear ho2 hr2 hrow2;obtain⟨W3,hW3⟩:∃ W3,W3=(w2.alloc (.cells #[.int .i64 rn,.int .i64 rt,.int .i64 rk,.int .i64 re,.slice sa told.length sc] 46)).alloc (.cells #[.int .i64 rn,.int .i64 rt,.int .i64 rk,.int .i64 re,.slice sa told.length sc] 46):=⟨_,rfl⟩;have hb3:Below w2.heap.size w2 W3:=by rw[hW3];exact((Below.refl _ _).alloc (Nat.le_refl _) _).alloc (by simp) _
   have hz3:W3.heap.size=w2.heap.size+2:=by rw[hW3];simp
   have x1:W3.cell? ⟨w2.heap.size,1,none⟩=some (.int .i64 rt):=by rw[hW3];simp[go_sem]
   have HsR:Hid (RowAt W3 (w2.heap.size+1) 0 (RecC.cells ⟨⟨rt,rn,rk,re⟩,sa,told.length,sc⟩)):=by
    intro j u hu;have hj:j<5:=by have:=(List.getElem?_eq_some_iff.1 hu).1;simpa [RecC.cells]using this
    have:j=0∨j=1∨j=2∨j=3∨j=4:=by omega
    rcases this with rfl|rfl|rfl|rfl|rfl<;>simp[RecC.cells]at hu<;>subst hu<;>rw[hW3]<;>simp[go_sem]
   have HA4:=aB (HA3.out.only (Only.new (S:=fun _=>False) hb3) (by simp))
   have Hrow4:=aB (aN Hrow2.out (Only.new (S:=fun _=>False) hb3) (by simp))
   have HB3:=aB hb3;have hzl:∀ b,some b=(Value.slice sa0 L.length sc0).ownBlock→b<wr.heap.size:=fun b hb=>(HA2.out.lt b (.inl hb)).2;have Hzl:=aB hzl;clear hb3 hzl
   go_wp2_with (at_builtin;rw[←hW3];refine aD rfl (.tmp 13) (.tmp 15) 39 rfl w.heap.size 46 (.agg #[.int .i64 0,.int .i64 0,.int .i64 0,.int .i64 0,.slice none 0 0]) 5 56 Tryz.underlying39 Tryz.infoR rfl (by omega) _ L.length (bA L) rfl HA4.out.row _ 1 (RecC.cells ⟨⟨rt,rn,rk,re⟩,sa,told.length,sc⟩) rfl (.inr (.inl ⟨w2.heap.size+1,0,_,rfl,HsR.out⟩)) rfl ?_ (by omega) (by omega) (by omega) ?_)
   ·intro u hu;simp[RecC.cells]at hu;rcases hu with rfl|rfl|rfl|rfl|rfl<;>rfl
   intro v5 w5 hown5 hgr5 hwh5;rw[←hW3]at hgr5;have hwh6:v5.ownBlock=(Value.slice sa0 L.length sc0).ownBlock∨v5.ownBlock=some W3.heap.size:=by rw[hz3];exact hwh5.out
   have ho5:=aF hgr5.out;have hnl:∀ b,some b=(Value.slice sa0 L.length sc0).ownBlock→w.heap.size≤b∧b<wr.heap.size:=fun b hb=>⟨(HA4.out.lt b (.inl hb)).1,Hzl.out b hb⟩;have y1:=ho5.at x1 (fun hc=>by have:=hnl _ hc;omega)
   have HA5:Hid (AllR w5 w.heap.size v5 (L++[⟨⟨rt,rn,rk,re⟩,sa,told.length,sc⟩]) (rs++[⟨⟨rt,rn,rk,re⟩,told⟩])):=
    HA4.out.snoc (x:=⟨⟨rt,rn,rk,re⟩,sa,told.length,sc⟩) (r:=⟨⟨rt,rn,rk,re⟩,told⟩) rfl rfl (gM Hrow4.out hzr) hgr5.out hown5.out hwh6 (fun b hb hc=>by have:=(Hrow4.out.lt b hb.symm).1;have:=Hzl.out b hc;omega)
   have HAp5:Hid (ApartR (L++[⟨⟨rt,rn,rk,re⟩,sa,told.length,sc⟩])):=HAp.out.snoc HA2.out (fun b hb=>(Hrow4.out.lt b hb.symm).1);have HO5:Hid (Only (·=rb) w w5):=(HO2.out.trans (Only.new HB3.out)).chain ho5 (fun k hk hc=>by have:=hnl _ hc;omega)
   have HR5:Hid (RdP w5 rb g l2 f2):=(HR2.out.only (Only.new (S:=fun _=>False) HB3.out) (by simp) (by simp)).only ho5 (fun hc=>by have:=hnl _ hc;omega) (fun hc=>by have:=hnl _ hc;omega)
   obtain⟨sa5,sc5,rfl⟩:=dE hown5.out;clear ho5 x1 hW3 hgr5 hown5 hwh5 hwh6 hnl
   go_wp2_with fail
   go_roundg (N-(i+1)+2)
   case measure=>omega
   case rel=>exact⟨i+1,_,rt,_,_,l2,f2,by go_num,rfl,rfl,Nat.le_refl _,by omega,by omega,by omega,by simp[HLi.out],HO5.out,HR5.out,HA5.out,HAp5.out,by rw[←Hq1.out];simp,Hq2.out⟩
  ·have d1:decide ((i:Int)<(N:Int))=false:=by simp;omega
   obtain⟨hLi,hO,hR,hA,hAp,hq1,hq2⟩:=hI.out;rw[show N-i=0 by omega]at hq1 hq2
   simp only[fB,List.append_nil]at hq1 hq2;obtain⟨o1,o2,o3⟩:=out;simp only[Prod.mk.injEq]at hq1 hq2;obtain⟨rfl,rfl⟩:=hq2;subst hq1;have HO:=aB hO;have HR:=aB hR;have HA2:=aB hA;have HAp:=aB hAp;clear hLi hO hR hA hAp hI
   go_wp2_with fail
   go_ret;exact⟨_,rfl,HO.out,HR.out,L,HA2.out,HAp.out⟩
structure BytesV(w:World)(sa:Option Addr)(cap:Nat)(l:List Int):Prop where
 len:l.length≤1000000000000000
 cap_:l.length≤cap
 bytes:∀ b∈l,0≤b∧b<256
 row:8≤l.length→∃ g off,sa=some ⟨g,off,none⟩∧RowAt w g off (aI l)∧g<w.heap.size
theorem BytesV.below{w w':World}{sa:Option Addr}{cap:Nat}{l:List Int}(h:BytesV w sa cap l)(hb:Below w.heap.size w w'):BytesV w' sa cap l:=by
 refine⟨h.len,h.cap_,h.bytes,fun h8=>?_⟩;obtain⟨g,off,rfl,h1,h2⟩:=h.row h8;exact⟨g,off,rfl,h1.below hb h2,Nat.lt_of_lt_of_le h2 hb.size⟩
theorem BytesV.glt{w:World}{g off cap:Nat}{l:List Int}(h:BytesV w (some ⟨g,off,none⟩) cap l)(h8:8≤l.length):g<w.heap.size:=by
 obtain⟨g',off',e,_,h2⟩:=h.row h8;simp only[Option.some.injEq,Addr.mk.injEq]at e;omega
theorem aBd(sa:Option Addr)(cap:Nat)(hd l:List Int)(w:World)(h:BytesV w sa cap l)(s:ByteArray)(hs:s=aH hd)(hhl:hd.length=4)(hhb:∀ b∈hd,0≤b∧b<256) :
  Calls Tryz.prog 64 #[.string s,.slice sa l.length cap] w fun e w'=>∃ p,e=.returned (.tuple #[.pointer p,.int .i64 (aU hd l)])∧Below w.heap.size w w'∧(aU hd l≠0→p=none)∧(aU hd l=0→∃ rb g,p=some ⟨rb,0,none⟩∧w.heap.size≤rb∧(∃ off,sa=some ⟨g,off,none⟩)∧RdP w' rb g (aK l) false):=by
 by_cases h8:l.length<8
 ·have hE:aU hd l=4:=by unfold aU;rw[if_pos (.inl h8)]
  rw[hE];refine(sV sa l.length cap s w (by rw[hs];simp[aH,ByteArray.size,hhl]) h8).mono ?_
  rintro e w' ⟨rfl,hb⟩;exact⟨none,rfl,hb,fun _=>rfl,fun h=>by cases h⟩
 ·obtain⟨g,off,rfl,h1,h2⟩:=h.row (by omega)
  refine(aE7 g off cap hd l w h1 h.cap_ h.bytes h.len s hs hhl hhb h2).mono ?_;rintro e w' ⟨p,rfl,hb,h3,h4⟩;refine⟨p,rfl,hb,h3,fun h0=>?_⟩;obtain⟨rb,h5,h6,h7⟩:=h4 h0;exact⟨rb,g,h5,h6,⟨off,rfl⟩,h7⟩
def mJ(l:List Int):Bool:=!(dP l).2.2&&(dP l).2.1.isEmpty
def jD(l:List Int):Int:=if aU [84,77,82,1] l≠0 then aU [84,77,82,1] l else if mJ (aK l)then 0 else 4
theorem aAo(sa:Option Addr)(cap:Nat)(l:List Int)(w:World)(h:BytesV w sa cap l) :
  Calls Tryz.prog 34 #[.slice sa l.length cap] w fun e w'=>∃ v,e=.returned (.tuple #[v,.int .i64 (jD l)])∧Below w.heap.size w w'∧(jD l≠0→v=.slice none 0 0)∧(jD l=0→∃ L,AllR w' w.heap.size v L (dP (aK l)).1∧ApartR L):=by
 have H:=aB h;have HE:Hid (jD l=if aU [84,77,82,1] l≠0 then aU [84,77,82,1] l else if mJ (aK l)then 0 else 4):=by show _=_;rfl
 clear h
 go_enter Tryz.func34,Tryz.ntmps34
 go_wp2_with fail
 refine(aBd sa cap [84,77,82,1] l w H.out _ ?_ rfl (by intro b hb;simp at hb;omega)).mono ?_
 ·rfl
 rintro e w1 ⟨p,rfl,hb1,hp1,hp2⟩;have HB1:=aB hb1;have hz1:=hb1.size
 by_cases h0:aU [84,77,82,1] l=0
 ·obtain⟨rb,g,rfl,h1r,h1g,hrd⟩:=hp2 h0;have HR:=aB hrd;rw[h0]at HE ⊢;simp only[ne_eq,not_true_eq_false,if_false]at HE;clear hp1 hp2 hrd hb1
  go_wp2_with fail
  refine(aCs rb g (aK l) w1 HR.out).mono ?_;rintro e w2 ⟨lv,L,rfl,ho2,hr2,hA2,hAp⟩;have hz2:=ho2.size;obtain⟨sa2,sc2,hlv⟩:=dE hA2.row;subst hlv;have HR2:=aB hr2;have HA2:=aB hA2;have HAp:=aB hAp;have HB2:Hid (Below w.heap.size w w2):=HB1.out.trans (ho2.below hz1 (fun k hk hc=>by omega))
  clear ho2 hr2 hA2 hAp
  go_wp2_with fail
  refine(zC rb g _ _ w2 HR2.out).mono ?_;rintro e w3 ⟨rfl,hb3⟩;have HB3:Hid (Below w.heap.size w w3):=HB2.out.trans (hb3.mono (by omega))
  have HA3:=aB (HA2.out.only (Only.new (S:=fun _=>False) hb3) (by simp))
  have hdo:(!(dP (aK l)).2.2&&(dP (aK l)).2.1.isEmpty)=mJ (aK l):=rfl;rw[hdo];clear hb3 hdo;rcases hok:mJ (aK l)with _|_
  ·have hE:jD l=4:=by rw[HE.out,hok];rfl
   go_wp2_with fail
   go_ret2;rw[hE];exact⟨_,rfl,HB3.out,fun _=>rfl,fun h=>by cases h⟩
  ·have hE:jD l=0:=by rw[HE.out,hok];rfl
   go_wp2_with fail
   go_ret2;rw[hE];refine⟨_,rfl,HB3.out,fun h=>absurd rfl h,fun _=>⟨L,?_,HAp.out⟩⟩;have:=HA3.out;obtain⟨h1,h2,h3,h4⟩:=this;refine⟨h1,gM h2 hz1,fun j x r hx hr=>?_,h4⟩;obtain⟨q1,q2,q3⟩:=h3 j x r hx hr;exact⟨q1,q2,gM q3 hz1⟩
 ·obtain rfl:=hp1 h0;have d0:(aU [84,77,82,1] l != 0)=true:=by simpa using h0
  have hE:jD l=aU [84,77,82,1] l:=by rw[HE.out,if_pos h0]
  have HE2:=aB hE;clear hp1 hp2 hb1 HE hE
  go_wp2_with fail
  go_ret2;rw[HE2.out];exact⟨_,rfl,HB1.out,fun _=>rfl,fun h=>absurd h h0⟩
def jH(E nk dl:Nat)(l:List Int):Int:=if aU [84,77,80,1] l≠0 then aU [84,77,80,1] l else if oP E nk dl (aK l)then 0 else 4
theorem aDr(E:Nat)(b off cap:Nat)(dv:Value)(ks:List (List Ins))(draws:List Int)(ba:Option Addr)(bcap:Nat)(l:List Int)(w:World)(hl:ks.length≤8)(hbw:b<w.heap.size)(hK:KindsAt w.heap.size w b off ks)(hd:IntsIn (·<w.heap.size) w dv draws)(hk:bE (E:Int) ks=none)(hD:cO draws=true)(he:1≤E∧E≤8)(hdl:draws.length≤1000)(hB:BytesV w ba bcap l) :
  Calls Tryz.prog 31 #[.agg #[.int .i64 (E:Int),.slice (some ⟨b,off,none⟩) ks.length cap],dv,.slice ba l.length bcap] w fun e w'=>∃ p,e=.returned (.tuple #[.pointer p,.int .i64 (jH E ks.length draws.length l)])∧Below w.heap.size w w'∧(jH E ks.length draws.length l≠0→p=none) ∧
   (jH E ks.length draws.length l=0→∃ kb qb mb ov R base,p=some ⟨kb,0,none⟩∧(w.heap.size≤base∧base≤w'.heap.size)∧(∀ x,bG kb qb mb ov x→base≤x)∧(∀ x,R x→base≤x)∧KerP R base w' kb qb mb ov (E:Int) ks draws (gI E ks.length draws.length (aK l)).2.1):=by
 have HB:=aB hB;have HD:=aB hd;have HKA:=aB hK;have Hk:=aB hk;have HE:Hid (jH E ks.length draws.length l=if aU [84,77,80,1] l≠0 then aU [84,77,80,1] l else if oP E ks.length draws.length (aK l)then 0 else 4):=by show _=_;rfl
 clear hB hd hK hk
 go_enter Tryz.func31,Tryz.ntmps31
 go_wp2_with fail
 obtain⟨W0,hW0⟩:∃ W0,W0=w.alloc (.cells #[.int .i64 (E:Int),.slice (some ⟨b,off,none⟩) ks.length cap] 38):=⟨_,rfl⟩;have hb0:Below w.heap.size w W0:=by rw[hW0];exact(Below.refl _ _).alloc (Nat.le_refl _) _
 have hz0:W0.heap.size=w.heap.size+1:=by rw[hW0];simp
 rw[←hW0];clear hW0;have hd0:IntsIn (·<W0.heap.size) W0 dv draws:=(HD.out.only (Only.new (S:=fun _=>False) hb0) (by simp)).mono (fun x hx=>by omega)
 refine(xT (E:Int) b off cap dv ks draws W0 (by omega) (by omega) ((HKA.out.below hb0 hbw (Nat.le_refl _)).mono (by omega)) hd0 Hk.out hD).mono ?_
 rintro e w1 ⟨kb,qb,mb,rfl,hb1,h1k,h1q,h1m,hP1⟩;have hz1:=hb1.size;have HB1:Hid (Below w.heap.size w w1):=hb0.trans (hb1.mono (by omega))
 obtain⟨R,hR⟩:∃ R:Nat→Prop,R=fun x=>W0.heap.size≤x∧x<w1.heap.size∧x≠kb∧x≠qb∧x≠mb:=⟨_,rfl⟩;rw[←hR]at hP1;have HP1:=aB hP1;have HRr:Hid (∀ x,R x→W0.heap.size≤x∧x<w1.heap.size):=by rw[hR];intro x hx;exact⟨hx.1,hx.2.1⟩
 clear hb0 hb1 hd0 hP1 hR
 go_wp2_with fail
 refine(aBd ba bcap [84,77,80,1] l w1 (HB.out.below HB1.out) _ ?_ rfl (by intro b hb;simp at hb;omega)).mono ?_
 ·rfl
 rintro e w2 ⟨p,rfl,hb2,hp1,hp2⟩;have hz2:=hb2.size;have HB2:Hid (Below w.heap.size w w2):=HB1.out.trans (hb2.mono (by omega))
 by_cases h0:aU [84,77,80,1] l=0
 ·obtain⟨rb,g,rfl,h2r,h2g,hrd⟩:=hp2 h0;rw[h0]at HE ⊢;simp only[ne_eq,not_true_eq_false,if_false]at HE;have hKlt:=HP1.out.lt;have hgw:g<w.heap.size:=by
   obtain⟨off',e⟩:=h2g;have hB:=HB.out;rw[e]at hB;exact hB.glt (iW h0).1
  have hLd:LdR R W0.heap.size w2 w2 kb qb mb rb g (.slice none 0 0) (.slice none 0 0) (E:Int) ks draws ks0 (aK l) false:=by
   refine⟨HP1.out.below hb2,hrd,fun hc=>by have:=hKlt _ hc;omega,?_,fun hc=>by have:=(HRr.out _ hc).2;omega,Only.refl _ _,.inl rfl,by omega⟩
   rintro (hc|hc|hc|hc)
   ·omega
   ·omega
   ·omega
   ·simp[Value.ownBlock]at hc
  have HLd:=aB hLd;clear hrd hb2 hLd hp1 hp2
  go_wp2_with fail
  have HRD:Hid (Calls Tryz.prog 65 #[.pointer (some ⟨kb,0,none⟩),.pointer (some ⟨rb,0,none⟩)] w2 fun e w'=>e=.returned (.bool (oP E ks.length draws.length (aK l)))∧∃ ov',LdR R W0.heap.size w2 w' kb qb mb rb g (.slice none 0 0) ov' (E:Int) ks draws (gI E ks.length draws.length (aK l)).2.1 (gI E ks.length draws.length (aK l)).2.2.1 (gI E ks.length draws.length (aK l)).2.2.2):=
   aEk kb qb mb rb g (.slice none 0 0) E ks draws (aK l) w2 ks0 HLd.out he hl hdl rfl _ _ _ _ _ _ _ _ _ _ _ _ _ _ _ _ _ _ _ _ _ _ rfl rfl rfl rfl rfl rfl rfl
  refine HRD.out.mono ?_;rintro e w3 ⟨rfl,ov3,hL3⟩;have hz3:=hL3.only.size;have HB3:Hid (Below w.heap.size w w3):=HB2.out.trans (hL3.only.below (by omega) (fun k hk hc=>by
   rcases hc with (hc|hc|hc|hc)|hc
   ·omega
   ·omega
   ·omega
   ·simp[Value.ownBlock]at hc
   ·omega))
  have Hmv:Hid (∀ x,bG kb qb mb ov3 x→W0.heap.size≤x):=by
   rintro x (hc|hc|hc|hc)
   ·omega
   ·omega
   ·omega
   ·rcases hL3.moved with e|⟨g',e,hg'⟩
    ·rw[e]at hc;simp[Value.ownBlock]at hc
    ·rw[e]at hc;simp at hc;omega
  have HK3:=aB hL3.ker;clear hL3 HRD;rcases hok:oP E ks.length draws.length (aK l)with _|_
  ·have hE:jH E ks.length draws.length l=4:=by rw[HE.out,hok];rfl
   go_wp2_with fail
   go_ret2;rw[hE];exact⟨_,rfl,HB3.out,fun _=>rfl,fun h=>by cases h⟩
  ·have hE:jH E ks.length draws.length l=0:=by rw[HE.out,hok];rfl
   go_wp2_with fail
   go_ret2;rw[hE];exact⟨_,rfl,HB3.out,fun h=>absurd rfl h,fun _=>⟨kb,qb,mb,ov3,R,W0.heap.size,rfl,by omega,Hmv.out,fun x hx=>(HRr.out x hx).1,HK3.out⟩⟩
 ·obtain rfl:=hp1 h0;have d0:(aU [84,77,80,1] l != 0)=true:=by simpa using h0
  have hE:jH E ks.length draws.length l=aU [84,77,80,1] l:=by rw[HE.out,if_pos h0]
  have HE2:=aB hE;clear hp1 hp2 hb2 HE hE
  go_wp2_with fail
  go_ret2;rw[HE2.out];exact⟨_,rfl,HB2.out,fun _=>rfl,fun h=>absurd h h0⟩
theorem rW(E:Nat)(ks:List (List Ins))(draws:List Int)(s:KS)(hl:ks.length≤8)(hfit:Fit (E:Int) ks draws s)(hz:nB (E:Int) s)(he:1≤E∧E≤8)(hdl:draws.length≤1000):gI E ks.length draws.length (fL (E:Int) ks.length s)=(true,s,[],false):=by
 obtain⟨hok,hso,hdi⟩:=hfit;obtain⟨k1,k2,k3,k4,k5,k6⟩:=hok;have E0:fL (E:Int) ks.length s=aJ (E:Int)++(aJ (ks.length:Int)++(aJ s.clock++(aJ s.next++(aJ (s.taken:Int)++(fT s (E*4)++(aJ (s.q.length:Int)++evB s.clock s.q)))))):=by
  unfold fL;rw[Int.toNat_natCast]
 have e6:gU (E*4) ks0.regs 0 (fT s (E*4)++(aJ (s.q.length:Int)++evB s.clock s.q)) false=(s.regs,aJ (s.q.length:Int)++evB s.clock s.q,false):=by
  have:=rV s.regs k4 (aJ (s.q.length:Int)++evB s.clock s.q) (E*4) ks0.regs 0;unfold fT;rw[List.range_eq_range',this];refine Prod.ext ?_ rfl
  funext j
  simp only[Nat.zero_le,true_and,Nat.zero_add]
  split
  ·rfl
  ·exact(hz j (by simp;omega)).symm
 have e7:eZ (E:Int) ks.length s.next s.clock [] (aJ (s.q.length:Int)++evB s.clock s.q) false=(true,s.q,[],false):=by
  unfold eZ;rw[bH (by omega) (by omega)]
  simp only[Int.toNat_natCast];have:=vA (ents:=(E:Int)) (nk:=ks.length) (next:=s.next) (by omega) hl k3.2 [] s.q [] s.clock 0 (by simpa using hso) (by simpa using hdi) (fun e he'=>by
   have:=k5 e he';exact⟨by omega,by omega,by omega,by omega⟩) k2.1 (by omega) (fun e he'=>by have:=k5 e he';exact⟨this.1,fun _=>by omega⟩)
  simpa using this
 unfold gI;rw[E0,bH (by omega) (by omega)]
 simp only;rw[bH (by omega) (by omega)]
 simp only;rw[bH (by omega) (by omega)]
 simp only;rw[bH (by omega) (by omega)]
 simp only;rw[bH (by omega) (by omega)]
 simp only;rw[e6];simp only;rw[e7];simp
theorem vY:∀ (l:List Int) (f i:Nat) (acc:Int),(∀ c∈l,0≤c∧c<256)→(dK f i acc l).2≠0 →
  ∃ m:Int,0≤m∧(0<i→0<m)∧m<128 ^ f∧(dK f i acc l).1=acc+m*128 ^ i∧i<(dK f i acc l).2∧(dK f i acc l).2≤i+l.length∧∀ k,f≤k+1→eK k m=l.take ((dK f i acc l).2-i)
 | [],f,i,acc,_,h=>by cases f<;>simp[dK]at h
 | c::l,0,i,acc,_,h=>by simp[dK]at h
 | c::l,f+1,i,acc,hb,h=>by
  have hc:=hb c (List.mem_cons_self ..);rw[dK]at h ⊢
  by_cases h1:c=0∧0<i
  ·rw[if_pos h1]at h;simp at h
  rw[if_neg h1]at h ⊢
  by_cases h2:c<128
  ·rw[if_pos h2];have hp:(0:Int)<128 ^ f:=Int.pow_pos (by omega)
   refine⟨c,hc.1,fun hi=>by omega,by rw[Int.pow_succ];omega,by simp only;rw[show c % 128=c by omega],by simp,by simp,?_⟩
   intro k hk;simp only[Nat.add_sub_cancel_left,List.take_succ_cons,List.take_zero];cases k with
   | zero=>rfl
   | succ k=>rw[eK,if_neg (by omega)]
  ·rw[if_neg h2]at h ⊢;obtain⟨m,m0,m1,m2,m3,m4,m5,m6⟩:=vY l f (i+1) (acc+c % 128*128 ^ i) (fun x hx=>hb x (List.mem_cons_of_mem _ hx)) h;have m1:=m1 (by omega)
   refine⟨c % 128+m*128,by omega,fun _=>by omega,?_,?_,by omega,by simp only[List.length_cons];omega,?_⟩
   ·rw[Int.pow_succ];omega
   ·rw[m3,Int.pow_succ];generalize (128:Int) ^ i=X;rw[Int.add_mul,Int.mul_comm X 128,←Int.mul_assoc];omega
   ·intro k hk;obtain⟨k',rfl⟩:∃ k',k=k'+1:=by
     cases k with
     | zero=>
      have:f=0:=by omega
      subst this
      exfalso
      apply h
      cases l<;>rfl
     | succ k'=>exact⟨k',rfl⟩
    rw[eK,if_pos (by omega),show(c % 128+m*128) % 128+128=c by omega,show(c % 128+m*128) / 128=m by omega,m6 k' (by omega)]
    generalize (dK f (i+1) (acc+c % 128*128 ^ i) l).2=sz at m4 m5;obtain⟨d,rfl⟩:∃ d,sz=i+1+d:=⟨sz-(i+1),by omega⟩
    rw[show i+1+d-i=d+1 by omega,show i+1+d-(i+1)=d by omega,List.take_succ_cons]
theorem aEg{l:List Int}(hb:∀ c∈l,0≤c∧c<256)(h:(fC l).2≠0):0≤(fC l).1∧l=aJ (fC l).1++l.drop (fC l).2:=by
 obtain⟨m,m0,_,m2,m3,m4,m5,m6⟩:=vY l 9 0 0 hb h;unfold fC at *;rw[m3];simp only[Int.pow_zero,Int.mul_one,Int.zero_add];refine⟨m0,?_⟩;have:=m6 9 (by omega)
 unfold aJ;rw[this,Nat.sub_zero,List.take_append_drop]
theorem aCu(low high:Int)(l:List Int):(aL low high l true).2.2=true:=by simp[aL]
theorem bU{low high v:Int}{l l1:List Int}{f:Bool}(hb:∀ c∈l,0≤c∧c<256)(h:aL low high l f=(v,l1,false)):f=false∧low≤v∧v≤high∧0≤v∧l=aJ v++l1:=by
 unfold aL at h
 split at h
 ·simp at h
 ·rename_i hn
  simp only[not_or]at hn;simp only[Prod.mk.injEq,and_true]at h;obtain⟨rfl,rfl⟩:=h;obtain⟨h1,h2⟩:=aEg hb hn.2.1;exact⟨by simpa using hn.1,by omega,by omega,h1,h2⟩
theorem vZ{v:Int}{l l1:List Int}{f:Bool}(hb:∀ c∈l,0≤c∧c<256)(h:eE 1000000000 l f=(v,l1,false)):f=false∧-1000000000≤v∧v≤1000000000∧l=cJ v++l1:=by
 unfold eE at h;rcases hr:aL 0 (2*1000000000) l f with⟨u,l',f'⟩;rw[hr]at h;simp only[Prod.mk.injEq]at h;obtain⟨rfl,rfl,rfl⟩:=h;obtain⟨h1,h2,h3,h4,h5⟩:=bU hb hr;have hs:jE (lO u)=u∧-1000000000≤lO u∧lO u≤1000000000:=by
  unfold jE lO
  by_cases ho:u % 2=1
  ·rw[if_pos ho,if_pos (by omega)];omega
  ·rw[if_neg ho,if_neg (by omega)];omega
 exact⟨h1,hs.2.1,hs.2.2,by rw[cJ,hs.1];exact h5⟩
theorem iI{a l l1:List Int}(hb:∀ c∈l,0≤c∧c<256)(h:l=a++l1):∀ c∈l1,0≤c∧c<256:=fun c hc=>hb c (by rw[h];exact List.mem_append_right _ hc)
theorem tG:∀ (n:Nat) (l ts l1:List Int) (f:Bool),(∀ c∈l,0≤c∧c<256)→dO n l f=(ts,l1,false)→f=false∧ts.length=n∧(∀ x∈ts,-1000000000≤x∧x≤1000000000)∧l=ts.flatMap cJ++l1
 | 0,l,ts,l1,f,hb,h=>by
  simp only[dO,Prod.mk.injEq]at h;obtain⟨rfl,rfl,rfl⟩:=h;simp
 | n+1,l,ts,l1,f,hb,h=>by
  rcases hr:eE 1000000000 l f with⟨v,l',f'⟩;rcases ht:dO n l' f' with⟨ts',l2,f2⟩;simp only[dO,hr,ht,Prod.mk.injEq]at h;obtain⟨rfl,rfl,rfl⟩:=h;have hb':∀ c∈l',0≤c∧c<256:=by
   intro c hc;refine hb c ?_;unfold eE at hr;simp only[Prod.mk.injEq]at hr;unfold aL at hr
   split at hr
   ·simp at hr;rw[hr.2.1];exact hc
   ·simp only[Prod.mk.injEq]at hr;rw[←hr.2.1]at hc;exact List.mem_of_mem_drop hc
  obtain⟨rfl,q1,q2,q3⟩:=tG n l' ts' l2 f' hb' ht;obtain⟨rfl,r1,r2,r3⟩:=vZ hb hr;refine⟨rfl,by simp[q1],?_,?_⟩
  ·intro x hx;rcases List.mem_cons.1 hx with rfl|hx
   ·exact⟨r1,r2⟩
   ·exact q2 x hx
  ·rw[r3,q3];simp
theorem aT{low high:Int}{l:List Int}{f:Bool}(hb:∀ c∈l,0≤c∧c<256):∀ c∈(aL low high l f).2.1,0≤c∧c<256:=by
 intro c hc;refine hb c ?_;unfold aL at hc
 split at hc
 ·exact hc
 ·exact List.mem_of_mem_drop hc
theorem aCv{t:Int}{l l1:List Int}{f:Bool}{r:Rec}(ht:0≤t)(hb:∀ c∈l,0≤c∧c<256)(h:cV t l f=(r,l1,false)):f=false∧cU t r=true∧l=eV t r++l1:=by
 unfold cV at h;have b1:∀ c∈(aL 0 (1000000000000-t) l f).2.1,0≤c∧c<256:=aT hb;rcases e1:aL 0 (1000000000000-t) l f with⟨v1,m1,f1⟩;rw[e1]at h b1;simp only at h b1;have b2:∀ c∈(aL 0 1000000000 m1 f1).2.1,0≤c∧c<256:=aT b1;rcases e2:aL 0 1000000000 m1 f1 with⟨v2,m2,f2⟩;rw[e2]at h b2;simp only at h b2;have b3:∀ c∈(aL 0 7 m2 f2).2.1,0≤c∧c<256:=aT b2;rcases e3:aL 0 7 m2 f2 with⟨v3,m3,f3⟩;rw[e3]at h b3;simp only at h b3;have b4:∀ c∈(aL 0 7 m3 f3).2.1,0≤c∧c<256:=aT b3;rcases e4:aL 0 7 m3 f3 with⟨v4,m4,f4⟩;rw[e4]at h b4;simp only at h b4;have b5:∀ c∈(aL 0 16 m4 f4).2.1,0≤c∧c<256:=aT b4;rcases e5:aL 0 16 m4 f4 with⟨v5,m5,f5⟩;rw[e5]at h b5;simp only at h b5;rcases e6:dO v5.toNat m5 f5 with⟨ts,m6,f6⟩;rw[e6]at h;simp only[Prod.mk.injEq]at h;obtain⟨rfl,rfl,rfl⟩:=h;obtain⟨rfl,q1,q2,q3⟩:=tG _ _ _ _ _ b5 e6;obtain⟨rfl,r1,r2,r3,r4⟩:=bU b4 e5;obtain⟨rfl,s1,s2,s3,s4⟩:=bU b3 e4
 obtain⟨rfl,t1,t2,t3,t4⟩:=bU b2 e3;obtain⟨rfl,u1,u2,u3,u4⟩:=bU b1 e2;obtain⟨rfl,w1,w2,w3,w4⟩:=bU hb e1;refine⟨rfl,?_,?_⟩
 ·simp only[cU,inB,gE,Bool.and_eq_true,decide_eq_true_eq,List.all_eq_true];exact⟨by omega,by omega,by omega,by omega,by omega,q2⟩
 ·simp only[eV];rw[w4,u4,t4,s4,r4,q3,show t+v1-t=v1 by omega,show(ts.length:Int)=v5 by omega]
  simp
theorem yZ{t:Int}{l:List Int}{f:Bool}(hb:∀ c∈l,0≤c∧c<256):∀ c∈(cV t l f).2.1,0≤c∧c<256:=by
 have ht:∀ (n:Nat) (l:List Int) (f:Bool),(∀ c∈l,0≤c∧c<256)→∀ c∈(dO n l f).2.1,0≤c∧c<256:=by
  intro n
  induction n with
  | zero=>intro l f h;exact h
  | succ n ih=>
   intro l f h;simp only[dO];refine ih _ _ ?_;unfold eE;exact aT h
 unfold cV;exact ht _ _ _ (aT (aT (aT (aT (aT hb)))))
theorem tH:∀ (n:Nat) (t:Int) (l l1:List Int) (f:Bool) (rs:List Rec),0≤t→(∀ c∈l,0≤c∧c<256)→fB n t l f=(rs,l1,false)→f=false∧rs.length=n∧aS t rs=true∧l=eY t rs++l1
 | 0,t,l,l1,f,rs,ht,hb,h=>by
  simp only[fB,Prod.mk.injEq]at h;obtain⟨rfl,rfl,rfl⟩:=h;simp[aS,eY]
 | n+1,t,l,l1,f,rs,ht,hb,h=>by
  have hb':∀ c∈(cV t l f).2.1,0≤c∧c<256:=yZ hb;have htt:t≤(cV t l f).1.e.time:=by
   have:=dU 0 (1000000000000-t) (by omega) l f
   simp only[cV];omega
  rcases hr:cV t l f with⟨r,l',f'⟩;rw[hr]at hb' htt;simp only at hb' htt;rcases hs:fB n r.e.time l' f' with⟨rs',l2,f2⟩;simp only[fB,hr,hs,Prod.mk.injEq]at h;obtain⟨rfl,rfl,rfl⟩:=h;obtain⟨rfl,q1,q2,q3⟩:=tH n r.e.time l' l2 f' rs' (by omega) hb' hs
  obtain⟨rfl,p1,p2⟩:=aCv ht hb hr;exact⟨rfl,by simp[q1],by simp[aS,p1,q2],by rw[p2,q3,eY];simp⟩
theorem aCw{l:List Int}(hb:∀ c∈l,0≤c∧c<256)(h:mJ l=true):fX (dP l).1=true∧mI (dP l).1=l:=by
 unfold mJ at h;simp only[Bool.and_eq_true,Bool.not_eq_true',List.isEmpty_iff]at h;obtain⟨h1,h2⟩:=h;have hb1:∀ c∈(aL 0 1000 l false).2.1,0≤c∧c<256:=aT hb;unfold dP at *;rcases e1:aL 0 1000 l false with⟨v,l1,f1⟩;rw[e1]at h1 h2 hb1;simp only at h1 h2 hb1 ⊢;rcases e2:fB v.toNat 0 l1 f1 with⟨rs,l2,f2⟩;rw[e2]at h1 h2;simp only at h1 h2 ⊢;subst h1 h2;obtain⟨rfl,q1,q2,q3⟩:=tH _ _ _ _ _ _ (by omega) hb1 e2
 obtain⟨_,r1,r2,r3,r4⟩:=bU hb e1;refine⟨?_,?_⟩
 ·simp only[fX,Bool.and_eq_true,decide_eq_true_eq];exact⟨by omega,q2⟩
 ·unfold mI;rw[r4,q3,show(rs.length:Int)=v by omega]
  simp
theorem aBe{l:List Int}(hb:∀ c∈l,0≤c∧c<256)(h:jD l=0):fX (dP (aK l)).1=true∧lE (dP (aK l)).1=l:=by
 unfold jD at h
 by_cases h0:aU [84,77,82,1] l=0
 rotate_left
 ·rw[if_pos h0]at h;exact absurd h h0
 rw[if_neg (by simpa using h0)]at h
 have hok:mJ (aK l)=true:=by
  rcases hd:mJ (aK l)with _|_
  ·rw[hd]at h;simp at h
  ·rfl
 obtain⟨h1,h2⟩:=aCw (fun c hc=>hb c (by unfold aK at hc;exact List.mem_of_mem_take (List.mem_of_mem_drop hc))) hok
 refine⟨h1,?_⟩;unfold aU at h0
 by_cases a1:l.length<8∨l.take 4≠[84,77,82,1]
 ·rw[if_pos a1]at h0;simp at h0
 rw[if_neg a1]at h0
 by_cases a2:l.drop (l.length-4)≠fE (l.take (l.length-4))
 ·rw[if_pos a2]at h0;simp at h0
 simp only[not_or,Nat.not_lt,ne_eq,Decidable.not_not]at a1 a2;have hh:uV (dP (aK l)).1=l.take (l.length-4):=by
  unfold uV;rw[h2,aK,←a1.2];have e4:l.take 4=(l.take (l.length-4)).take 4:=by rw[List.take_take,Nat.min_eq_left (by omega)]
  rw[e4,List.take_append_drop]
 unfold lE;rw[hh,←a2,List.take_append_drop]
theorem qI:∀ (ts:List Int) (rest:List Int),(∀ x∈ts,-1000000000≤x∧x≤1000000000)→dO ts.length (ts.flatMap cJ++rest) false=(ts,rest,false)
 | [],rest,_=>by simp[dO]
 | x::ts,rest,h=>by
  have h1:=rU (h x (List.mem_cons_self ..)) (ts.flatMap cJ++rest);have h2:=qI ts rest (fun y hy=>h y (List.mem_cons_of_mem _ hy));simp only[List.length_cons,List.flatMap_cons,List.append_assoc,dO];rw[h1];simp only;rw[h2]
theorem xG{t:Int}{r:Rec}(ht:0≤t)(h:cU t r=true)(rest:List Int):cV t (eV t r++rest) false=(r,rest,false):=by
 obtain⟨⟨o1,o2,o3,o4,o5,o6⟩,o7⟩:=fR h;unfold cV eV;simp only[List.append_assoc];rw[bH (by omega) (by omega)]
 simp only;rw[bH (by omega) (by omega)]
 simp only;rw[bH (by omega) (by omega)]
 simp only;rw[bH (by omega) (by omega)]
 simp only;rw[bH (by omega) (by omega)]
 simp only[Int.toNat_natCast];rw[qI r.told rest o6];simp only;rw[show t+(r.e.time-t)=r.e.time by omega]
theorem qJ:∀ (rs:List Rec) (t:Int) (rest:List Int),0≤t→aS t rs=true→fB rs.length t (eY t rs++rest) false=(rs,rest,false)
 | [],t,rest,_,_=>by simp[fB,eY]
 | r::rs,t,rest,ht,h=>by
  simp only[aS,Bool.and_eq_true]at h;have h1:=xG ht h.1 (eY r.e.time rs++rest);have h2:=qJ rs r.e.time rest (by have:=(fR h.1).2;omega) h.2
  simp only[List.length_cons,eY,List.append_assoc,fB];rw[h1];simp only;rw[h2]
theorem tI{rs:List Rec}(h:fX rs=true):dP (mI rs)=(rs,[],false):=by
 obtain⟨h1,h2⟩:=kH h;unfold dP mI;rw[bH (by omega) (by omega)]
 simp only[Int.toNat_natCast];have:=qJ rs 0 [] (by omega) h2
 simpa using this
theorem aFm{rs:List Rec}(h:fX rs=true):jD (lE rs)=0∧(dP (aK (lE rs))).1=rs:=by
 have e1:aK (lE rs)=mI rs:=oK [84,77,82,1] (mI rs) rfl;have e2:aU [84,77,82,1] (lE rs)=0:=yJ [84,77,82,1] (mI rs) rfl;unfold jD;rw[e1,e2,tI h];simp[mJ,tI h]
end Go.Proofs.YtndlmgocldckfaaGreat
