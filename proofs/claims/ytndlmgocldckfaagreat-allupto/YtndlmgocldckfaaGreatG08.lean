import Derived.Test.YtndlmgocldckfaaGreatG07
import Derived.BigQuiet
import Derived.Deep.LoopGhost
import Derived.Deep.RegionHeld3
import Derived.Test.YtndlmgocldckfaaGreatG02
import Derived.BigRegion
import Derived.Deep.QuietTactic
import Derived.RegionTactic
namespace Go.Proofs.YtndlmgocldckfaaGreat
open Go.RowKit
set_option linter.unusedVariables false
set_option linter.unusedSimpArgs false
set_option maxRecDepth 100000
set_option maxHeartbeats 4000000
theorem rK(n:Nat)(w:World)(hn:n≤2199023255552):Calls Tryz.prog 19 #[.int .i64 n] w fun e w'=>e=.returned (.int .u8 (200+((n / 4 % 50:Nat):Int)))∧w'=w:=by
 go_enter Tryz.func19,Tryz.ntmps19
 go_wp2
 go_ret;refine⟨?_,rfl⟩;simp
 try omega
theorem lS(a b c d e f g h:Int)(x y:Value)(w:World):Calls Tryz.prog 20 #[.agg #[.int .i64 a,.int .i64 b,.int .i64 c,.int .i64 d,x],.agg #[.int .i64 e,.int .i64 f,.int .i64 g,.int .i64 h,y]] w fun r w'=>r=.returned (.bool (decide (a=e)&&(decide (b=f)&&(decide (c=g)&&decide (d=h)))))∧Below w.heap.size w w':=by
 have hb:Below w.heap.size w _:=((Below.refl w.heap.size w).alloc (Nat.le_refl _) (.cells #[.int .i64 a,.int .i64 b,.int .i64 c,.int .i64 d,x] 46)).alloc (by simp) (.cells #[.int .i64 e,.int .i64 f,.int .i64 g,.int .i64 h,y] 46)
 have HB:=aB hb;clear hb
 by_cases h1:a=e
 rotate_left
 ·have d1:(a==e)=false:=by simpa using h1
  go_enter Tryz.func20,Tryz.ntmps20
  go_wp2
  go_ret;exact⟨by simp[h1],HB.out⟩
 by_cases h2:b=f
 rotate_left
 ·have d1:(b==f)=false:=by simpa using h2
  subst h1
  go_enter Tryz.func20,Tryz.ntmps20
  go_wp2
  go_ret;exact⟨by simp[h2],HB.out⟩
 by_cases h3:c=g
 rotate_left
 ·have d1:(c==g)=false:=by simpa using h3
  subst h1 h2
  go_enter Tryz.func20,Tryz.ntmps20
  go_wp2
  go_ret;exact⟨by simp[h3],HB.out⟩
 subst h1 h2 h3
 go_enter Tryz.func20,Tryz.ntmps20
 go_wp2
 go_ret;exact⟨by simp;rfl,HB.out⟩
theorem rD{n j:Nat}{v:Value}(h:j<n):(aZ n [v])[j]?=some v:=by
 have:=rJ n j 0 [v] (by simp) h
 simpa using this
theorem lT{n j i:Nat}{a b c d e:Value}(h:j<n)(hi:i<5):(aZ n [a,b,c,d,e])[j*5+i]?=[a,b,c,d,e][i]?:=rJ n j i [a,b,c,d,e] hi h
theorem rE{w:World}{base:Nat}{e:TypeId}{v:Value}{l:List Value}(h:w.ownsRow base e 1 v l.length l){i:Nat}{x:Value}(hx:l[i]?=some x):∃ g cap,v=.slice (some ⟨g,0,none⟩) l.length cap∧w.cell? ⟨g,i,none⟩=some x:=by
 have hi:=(List.getElem?_eq_some_iff.1 hx).1;rcases bK h with⟨_,h0,_⟩|⟨g,cap,rfl,_,_,hr⟩
 ·omega
 ·have:=hr i x hx;rw[Nat.zero_add]at this;exact⟨g,cap,rfl,this⟩
theorem aBq(wb:Nat)(k:BkD)(w:World)(h:BkP w wb k)(hlb:k.bl.length≤1099511627776)(hli:k.il.length≤1099511627776)(hlr:k.rl.length≤1099511627776) :
  Calls Tryz.prog 12 #[.pointer (some ⟨wb,1,none⟩)] w fun e w'=>e=.returned (.bool true)∧Below w.heap.size w w':=by
 have H:=aB h;have hwl:=h.lt;obtain⟨ba,bc,hbv⟩:=aM h.ok.bown;obtain⟨ia,ic,hiv⟩:=aM h.ok.iown;obtain⟨ra,rc,hrv⟩:=aM h.ok.rown;have c1:=h.c1;have c2:=h.c2;have c3:=h.c3;rw[hbv]at c1;rw[hiv]at c2;rw[hrv]at c3;have Hbv:=aB hbv;have Hiv:=aB hiv;have Hrv:=aB hrv;clear h hbv hiv hrv
 go_enter Tryz.func12,Tryz.ntmps12
 go_wp2
 go_loopw [3,4,5] (fun i _ _ wr=>∃ (n:Nat),n≤k.bl.length∧i=.int .i64 n∧wr=w) (fun i _ _ _=>k.bl.length-(intOf i).toNat)
 case atStart=>exact⟨0,Nat.zero_le _,rfl,rfl⟩
 case round=>
  obtain⟨n,hn,rfl,rfl⟩:=hrel
  by_cases hlt:n<k.bl.length
  ·have d1:decide ((n:Int)<(k.bl.length:Int))=true:=by simp;omega
   have hnn:(n:Int)<(k.bl.length:Int):=by omega
   have hw:IntKind.i64.wrap ((n:Int)+1)=(n:Int)+1:=by rw[IntKind.wrap_i64];omega
   obtain⟨v,hv⟩:∃ v,k.bl[n]?=some v:=⟨k.bl[n],List.getElem?_eq_getElem hlt⟩;obtain⟨g,cap,hg,cg⟩:=rE H.out.ok.bown hv;obtain⟨m,hm,ea,ec,rfl,hx⟩:=H.out.ok.bent n v hv;rw[Hbv.out]at hg;simp only[Value.slice.injEq,true_and]at hg;obtain⟨rfl,rfl⟩:=hg;have HX:=aB hx;clear hx hv
   go_wp2_with (go_at_call 19;refine(rK n _ (by omega)).mono ?_;rintro e w1 ⟨rfl,rfl⟩)
   rename World=>wo
   go_loopw [5] (fun j wr=>∃ (q:Nat),q≤m∧j=.int .i64 q∧wr=wo) (fun j _=>m-(intOf j).toNat)
   case atStart=>exact⟨0,Nat.zero_le _,rfl,rfl⟩
   case round=>
    obtain⟨q,hq,rfl,rfl⟩:=hrel
    by_cases hqt:q<m
    ·have d2:decide ((q:Int)<(m:Int))=true:=by simp;omega
     have hqq:(q:Int)<(m:Int):=by omega
     have hw2:IntKind.i64.wrap ((q:Int)+1)=(q:Int)+1:=by rw[IntKind.wrap_i64];omega
     obtain⟨b,rfl,hr⟩:=HX.out (by omega)
     have cq:=hr q _ (rD hqt);rw[Nat.zero_add]at cq;clear hr
     go_wp2
     go_roundw
     case rel=>exact⟨q+1,by omega,by go_num,trivial⟩
     case measure=>simp[intOf];omega
    ·have d2:decide ((q:Int)<(m:Int))=false:=by simp;omega
     go_wp2
     go_roundw
     case rel=>exact⟨n+1,by omega,by go_num,trivial⟩
     case measure=>simp[intOf];omega
  ·have d1:decide ((n:Int)<(k.bl.length:Int))=false:=by simp;omega
   go_wp2
   clear hn hlt d1;rename World=>wo
   go_loopw [6,7] (fun i _ wr=>∃ (n:Nat),n≤k.il.length∧i=.int .i64 n∧wr=wo) (fun i _ _=>k.il.length-(intOf i).toNat)
   case atStart=>exact⟨0,Nat.zero_le _,rfl,rfl⟩
   case round=>
    obtain⟨n,hn,rfl,rfl⟩:=hrel
    by_cases hlt:n<k.il.length
    ·have d1:decide ((n:Int)<(k.il.length:Int))=true:=by simp;omega
     have hnn:(n:Int)<(k.il.length:Int):=by omega
     have hw:IntKind.i64.wrap ((n:Int)+1)=(n:Int)+1:=by rw[IntKind.wrap_i64];omega
     obtain⟨v,hv⟩:∃ v,k.il[n]?=some v:=⟨k.il[n],List.getElem?_eq_getElem hlt⟩;obtain⟨g,cap,hg,cg⟩:=rE H.out.ok.iown hv;obtain⟨m,hm,ea,ec,rfl,hx⟩:=H.out.ok.ient n v hv;rw[Hiv.out]at hg;simp only[Value.slice.injEq,true_and]at hg;obtain⟨rfl,rfl⟩:=hg;have HX:=aB hx;clear hx hv
     go_wp2_with fail
     rename World=>wo
     go_loopw [7] (fun j wr=>∃ (q:Nat),q≤m∧j=.int .i64 q∧wr=wo) (fun j _=>m-(intOf j).toNat)
     case atStart=>exact⟨0,Nat.zero_le _,rfl,rfl⟩
     case round=>
      obtain⟨q,hq,rfl,rfl⟩:=hrel
      by_cases hqt:q<m
      ·have d2:decide ((q:Int)<(m:Int))=true:=by simp;omega
       have hqq:(q:Int)<(m:Int):=by omega
       have hw2:IntKind.i64.wrap ((q:Int)+1)=(q:Int)+1:=by rw[IntKind.wrap_i64];omega
       obtain⟨b,rfl,hr⟩:=HX.out (by omega)
       have cq:=hr q _ (rD hqt);rw[Nat.zero_add,show(((n / 4:Nat)):Int)=(n:Int) / 4 by omega]at cq
       have e4:Int.tdiv (n:Int) 4=(n:Int) / 4:=Int.tdiv_eq_ediv_of_nonneg (by omega)
       have dn:((-1000-(n:Int) / 4) != (-1000-(n:Int) / 4))=false:=by simp
       clear hr
       go_wp2
       go_roundw
       case rel=>exact⟨q+1,by omega,by go_num,trivial⟩
       case measure=>simp[intOf];omega
      ·have d2:decide ((q:Int)<(m:Int))=false:=by simp;omega
       go_wp2
       go_roundw
       case rel=>exact⟨n+1,by omega,by go_num,trivial⟩
       case measure=>simp[intOf];omega
    ·have d1:decide ((n:Int)<(k.il.length:Int))=false:=by simp;omega
     go_wp2
     clear hn hlt d1;rename World=>wo
     go_loopw [8,9,10,11] (fun i _ _ _ wr=>∃ (n:Nat),n≤k.rl.length∧i=.int .i64 n∧Hid (Below wo.heap.size wo wr)) (fun i _ _ _ _=>k.rl.length-(intOf i).toNat)
     case atStart=>exact⟨0,Nat.zero_le _,rfl,Below.refl _ _⟩
     case round=>
      obtain⟨n,hn,rfl,hB⟩:=hrel;have c30:=c3;have c3':=aA hB.out c3 hwl;clear c3
      by_cases hlt:n<k.rl.length
      ·have d1:decide ((n:Int)<(k.rl.length:Int))=true:=by simp;omega
       have hnn:(n:Int)<(k.rl.length:Int):=by omega
       have hw:IntKind.i64.wrap ((n:Int)+1)=(n:Int)+1:=by rw[IntKind.wrap_i64];omega
       obtain⟨v,hv⟩:∃ v,k.rl[n]?=some v:=⟨k.rl[n],List.getElem?_eq_getElem hlt⟩;obtain⟨g,cap,hg,cg⟩:=rE H.out.ok.rown hv;obtain⟨m,hm,ea,ec,rfl,hx⟩:=H.out.ok.rent n v hv;rw[Hrv.out]at hg;simp only[Value.slice.injEq,true_and]at hg;obtain⟨rfl,rfl⟩:=hg;have HX:=aB hx;clear hx hv;rename World=>wr;have hzr:=hB.out.size;have e4:Int.tdiv (n:Int) 4=(n:Int) / 4:=Int.tdiv_eq_ediv_of_nonneg (by omega)
       obtain⟨m0,hm0⟩:∃ m0:Int,m0=-1000-(n:Int) / 4:=⟨_,rfl⟩;obtain⟨W2,hW2⟩:∃ W2,W2=wr.alloc (.cells #[.int .i64 m0,.int .i64 0,.int .i64 0,.int .i64 0,.slice none 0 0] 46):=⟨_,rfl⟩;have hb2:Below wr.heap.size wr W2:=by rw[hW2];exact aE _ _
       have hz2:W2.heap.size=wr.heap.size+1:=by rw[hW2];simp
       have a0:W2.cell? ⟨wr.heap.size,0,none⟩=some (.int .i64 m0):=by rw[hW2];simp[go_sem]
       have a1:W2.cell? ⟨wr.heap.size,1,none⟩=some (.int .i64 0):=by rw[hW2];simp[go_sem]
       have a2:W2.cell? ⟨wr.heap.size,2,none⟩=some (.int .i64 0):=by rw[hW2];simp[go_sem]
       have a3:W2.cell? ⟨wr.heap.size,3,none⟩=some (.int .i64 0):=by rw[hW2];simp[go_sem]
       have a4:W2.cell? ⟨wr.heap.size,4,none⟩=some (.slice none 0 0):=by rw[hW2];simp[go_sem]
       have HB2:Hid (Below wo.heap.size wo W2):=hB.out.trans (hb2.mono hzr);clear hb2;have HW2:=aB hW2;clear hW2
       go_wp2_with fail
       rw[←hm0,←HW2.out];have Hm0:Hid (.int .i64 m0=Value.int .i64 (-1000-((n / 4:Nat):Int))):=by show _=_;rw[hm0];congr 2
       clear hm0 HW2 e4
       go_loopw [10,11] (fun j _ wx=>∃ (q:Nat),q≤m∧j=.int .i64 q∧Hid (Below W2.heap.size W2 wx)) (fun j _ _=>m-(intOf j).toNat)
       case atStart=>exact⟨0,Nat.zero_le _,rfl,Below.refl _ _⟩
       case round=>
        obtain⟨q,hq,rfl,hX⟩:=hrel;rename World=>wx;have hzx:=hX.out.size;have hoz:=HB2.out.size;have HBX:Hid (Below wo.heap.size wo wx):=HB2.out.trans (hX.out.mono (by omega))
        have k3:=aA HBX.out c30 hwl;have kg:=aA HBX.out cg (aC cg)
        by_cases hqt:q<m
        ·have d2:decide ((q:Int)<(m:Int))=true:=by simp;omega
         have hqq:(q:Int)<(m:Int):=by omega
         have hw2:IntKind.i64.wrap ((q:Int)+1)=(q:Int)+1:=by rw[IntKind.wrap_i64];omega
         obtain⟨b,rfl,hr⟩:=HX.out (by omega)
         have r0:=hr (q*5+0) _ (lT hqt (by omega))
         have r1:=hr (q*5+1) _ (lT hqt (by omega))
         have r2:=hr (q*5+2) _ (lT hqt (by omega))
         have r3:=hr (q*5+3) _ (lT hqt (by omega))
         have r4:=hr (q*5+4) _ (lT hqt (by omega))
         simp only[Nat.zero_add,Nat.add_zero]at r0 r1 r2 r3 r4;rw[←Hm0.out]at r0;have u0:=aA HBX.out r0 (aC r0);have u1:=aA HBX.out r1 (aC r1);have u2:=aA HBX.out r2 (aC r2);have u3:=aA HBX.out r3 (aC r3);have u4:=aA HBX.out r4 (aC r4);have v0:=aA hX.out a0 (by omega)
         have v1:=aA hX.out a1 (by omega)
         have v2:=aA hX.out a2 (by omega)
         have v3:=aA hX.out a3 (by omega)
         have v4:=aA hX.out a4 (by omega)
         clear hr r0 r1 r2 r3 r4
         go_wp2_with fail
         go_region_held3 (fun W'=>W'.cell? ⟨wb,3,none⟩=some (.slice (some ⟨g,0,none⟩) k.rl.length rc)∧W'.cell? ⟨g,n,none⟩=some (.slice (some ⟨b,0,none⟩) m ec)∧W'.cell? ⟨b,q*5,none⟩=some (.int .i64 m0)∧W'.cell? ⟨b,q*5+1,none⟩=some (.int .i64 0)∧W'.cell? ⟨b,q*5+2,none⟩=some (.int .i64 0)∧W'.cell? ⟨b,q*5+3,none⟩=some (.int .i64 0)∧W'.cell? ⟨b,q*5+4,none⟩=some (.slice none 0 0)∧W'.cell? ⟨wr.heap.size,0,none⟩=some (.int .i64 m0)∧W'.cell? ⟨wr.heap.size,1,none⟩=some (.int .i64 0)∧W'.cell? ⟨wr.heap.size,2,none⟩=some (.int .i64 0)∧W'.cell? ⟨wr.heap.size,3,none⟩=some (.int .i64 0)∧W'.cell? ⟨wr.heap.size,4,none⟩=some (.slice none 0 0))
          (first|exact⟨k3,kg,u0,u1,u2,u3,u4,v0,v1,v2,v3,v4⟩|exact⟨aA hb5 k3 (aC k3),aA hb5 kg (aC kg),aA hb5 u0 (aC u0),aA hb5 u1 (aC u1),aA hb5 u2 (aC u2),aA hb5 u3 (aC u3),aA hb5 u4 (aC u4),aA hb5 v0 (aC v0),aA hb5 v1 (aC v1),aA hb5 v2 (aC v2),aA hb5 v3 (aC v3),aA hb5 v4 (aC v4)⟩)
          (first|(go_at_call 20;refine(lS m0 0 0 0 m0 0 0 0 (.slice none 0 0) (.slice none 0 0) wx.drew).mono ?_;rintro e' w5 ⟨rfl,hb5'⟩;(have hb5:Below wx.heap.size wx w5:=(Below.refl _ _).drew.trans hb5')))
         have y3:=aA hb5 k3 (aC k3);have yg:=aA hb5 kg (aC kg);have y4:=aA hb5 u4 (aC u4);clear k3 kg u0 u1 u2 u3 u4 v0 v1 v2 v3 v4;have HB5:Hid (Below W2.heap.size W2 w5):=hX.out.trans (hb5.mono hzx);clear hb5 hb5'
         go_wp2_with fail
         go_roundw
         case rel=>exact⟨q+1,by omega,by go_num,HB5.out⟩
         case measure=>simp[intOf];omega
        ·have d2:decide ((q:Int)<(m:Int))=false:=by simp;omega
         go_wp2
         go_roundw
         case rel=>exact⟨n+1,by omega,by go_num,HBX.out⟩
         case measure=>simp[intOf];omega
      ·have d1:decide ((n:Int)<(k.rl.length:Int))=false:=by simp;omega
       go_wp2
       go_ret;exact⟨rfl,hB.out⟩
attribute [local go_sem] jJ aBm
def aG2:Rec:=⟨⟨0,1,0,0⟩,[]⟩
def zT(g:Nat)(ss:List (Option Addr×Nat))(y:Nat):Prop:=y=g∨∃ (i:Nat) (s:Option Addr×Nat),ss[i]?=some s∧s.1=some ⟨y,0,none⟩
structure WholR(w:World)(g n k:Nat)(ss:List (Option Addr×Nat))(wr:World):Prop where
 only:Only (zT g ss) w wr
 cells:∀ j,k*5≤j→j<(n+8)*5→wr.cell? ⟨g,j,none⟩=w.cell? ⟨g,j,none⟩
 room:Room wr g ((n+8)*5)
 tolds:∀ (i:Nat) s c,k≤i→ss[i]?=some s→s.1=some ⟨c,0,none⟩→wr.heap[c]?=w.heap[c]?
theorem WholR.below{w wr w2:World}{g n k:Nat}{ss:List (Option Addr×Nat)}(x:WholR w g n k ss wr)(hg:g<w.heap.size)(hc:∀ (i:Nat) s c,ss[i]?=some s→s.1=some ⟨c,0,none⟩→c<w.heap.size∧c≠g)(hb:Below wr.heap.size wr w2):WholR w g n k ss w2:=by
 have hs:=x.only.size;refine⟨x.only.trans (Only.new hb),?_,x.room.below hb (by omega),?_⟩
 ·intro j h1 h2;rw[←x.cells j h1 h2];exact hb.cell (p:=⟨g,j,none⟩) (by show g<_;omega)
 ·intro i s c h1 h2 h3;rw[←x.tolds i s c h1 h2 h3];exact hb.block c (by have:=(hc i s c h2 h3).1;omega)
theorem WholR.step{w wr w3:World}{g n k:Nat}{ss:List (Option Addr×Nat)}(x:WholR w g n k ss wr)(hg:g<w.heap.size)(hc:∀ (i:Nat) s c,ss[i]?=some s→s.1=some ⟨c,0,none⟩→c<w.heap.size∧c≠g)
  (ha:∀ (i j:Nat) s s' c,ss[i]?=some s→ss[j]?=some s'→s.1=some ⟨c,0,none⟩→s'.1=some ⟨c,0,none⟩→i=j) (ho:Only (fun y=>∃ s,ss[k]?=some s∧s.1=some ⟨y,0,none⟩) wr w3) (r:Rec) (v:Value):WholR w g n (k+1) ss (jA w3 g (k*5) r v):=by
 have hs:=x.only.size;have hgk:¬∃ s,ss[k]?=some s∧s.1=some ⟨g,0,none⟩:=fun⟨s,h1,h2⟩=>(hc k s g h1 h2).2 rfl;have hcell:∀ j v',wr.cell? ⟨g,j,none⟩=some v'→w3.cell? ⟨g,j,none⟩=some v':=fun j v' h=>ho.at h hgk;have hp:=kN w3 g (k*5) r v;refine⟨(x.only.trans (ho.mono fun y _ ⟨s,hy,hy2⟩=>.inr ⟨k,s,hy,hy2⟩)).chain hp (fun i _ hi=>.inl hi),?_,gO (x.room.only ho hgk) _ _ _ _,?_⟩
 ·intro j h1 h2;rw[cI _ _ _ _ _ _ _ (by omega)]
  obtain⟨u,hu⟩:=Option.isSome_iff_exists.1 (x.room j h2).1;rw[hcell j u hu,←x.cells j (by omega) h2,hu]
 ·intro i s c h1 h2 h3;have hcc:=hc i s c h2 h3;have hz:=ho.size;rw[hp.block c (by omega) hcc.2,←x.tolds i s c (by omega) h2 h3]
  refine ho.block c (by omega) fun⟨s',h4,h5⟩=>?_
  have:=ha i k s s' c h2 h4 h3 h5;omega
theorem pO(o v:Value)(w:World):Calls Tryz.prog 40 #[o,v,.slice none 0 0] w fun e w'=>e=.returned (.bool true)∧w'=w:=by
 go_enter Tryz.func40,Tryz.ntmps40
 go_wp2
 go_ret;exact⟨rfl,rfl⟩
theorem pP(ra:Addr)(lo hi g h b off cap:Nat)(ss:List (Option Addr×Nat))(rs:List Rec)(w:World)(hra:0<rs.length→ra=⟨b,off,none⟩)(hl:rs.length≤1048576)(x:LentR lo hi w g h b off rs.length ss rs)(sp:SpareR w g rs.length (rs.length+8)) :
  Calls Tryz.prog 40 #[.slice (some ⟨g,0,none⟩) rs.length (rs.length+8),.slice (some ⟨h,0,none⟩) rs.length rs.length,.slice (some ra) rs.length cap] w
   fun e w'=>e=.returned (.bool true)∧Only (zT g ss) w w':=by
 have hgw:=x.ghi;have hhw:=x.hhi;have hblo:=x.blo;have hlohi:=x.lohi;have hglo:=x.glo;have hhlo:=x.hlo;have hgh:=x.gh;have Hcw:Hid (∀ (i:Nat) s c,ss[i]?=some s→s.1=some ⟨c,0,none⟩→c<w.heap.size∧c≠g):=fun i s c h1 h2=>⟨(x.sep i s c h1 h2).2.2.2,(x.sep i s c h1 h2).1⟩;have Hns:Hid (∀ y,y<hi→¬zT g ss y):=by
  rintro y hy (rfl|⟨i,s,h1,h2⟩)
  ·omega
  ·have:=x.sep i s y h1 h2;omega
 have Hnh:Hid (¬zT g ss h):=by
  rintro (h0|⟨i,s,h1,h2⟩)
  ·omega
  ·have:=x.sep i s h h1 h2;omega
 have Hx:=aB x;have HSp:=aB sp;clear x sp
 go_enter Tryz.func40,Tryz.ntmps40
 go_wp2_with fail
 go_loopg [9,10,11,12,13,14,15] (rs.length+11) (fun gk s9 s10 _ _ _ _ _ wr=>∃ (k:Nat),s9=.bool true∧s10=.int .i64 k∧rs.length+8-k+2≤gk∧k≤rs.length+8∧Hid (WholR w g rs.length k ss wr))
 case atStart=>exact⟨0,rfl,rfl,by omega,by omega,Only.refl _ _,fun _ _ _=>rfl,Hx.out.room,fun _ _ _ _ _ _=>rfl⟩
 case round=>
  obtain⟨k,rfl,rfl,hg,hk,hW⟩:=hrel;have hson:=hW.out.only.size
  by_cases hlt:k<rs.length
  ·obtain rfl:=hra (by omega)
   have hkk:(k:Int)<(rs.length:Int):=by omega
   have hk8:(k:Int)<(rs.length:Int)+8:=by omega
   have d1:decide ((k:Int)<(rs.length:Int)+8)=true:=by simp;omega
   have d2:decide ((k:Int)<(rs.length:Int))=true:=by simp;omega
   have hw:IntKind.i64.wrap ((k:Int)+1)=(k:Int)+1:=by rw[IntKind.wrap_i64];omega
   have hsk:ss[k]?=some (ss[k]'(by rw[Hx.out.len];exact hlt)):=List.getElem?_eq_getElem _
   generalize ss[k]'(by rw[Hx.out.len];exact hlt)=s at hsk
   obtain⟨sa,sc⟩:=s;have hrk:rs[k]?=some rs[k]:=List.getElem?_eq_getElem hlt;obtain⟨hg0,hh0⟩:=Hx.out.row k _ _ hsk hrk;obtain⟨v,hb0,hv,hlv⟩:=Hx.out.orig k _ hrk;have hlv:=hlv _ hsk;obtain⟨va,vc,rfl⟩:=hv.form;have hG:RcAt wr g (k*5) rs[k] (.slice sa rs[k].told.length sc):=⟨(hW.out.cells _ (by omega) (by omega)).trans hg0.c0,(hW.out.cells _ (by omega) (by omega)).trans hg0.c1,(hW.out.cells _ (by omega) (by omega)).trans hg0.c2,(hW.out.cells _ (by omega) (by omega)).trans hg0.c3,(hW.out.cells _ (by omega) (by omega)).trans hg0.c4⟩
   have hB:=hb0.only hW.out.only (Hns.out b (by omega))
   have hH:=hW.out.only.at hh0 Hnh.out;have HV:Hid (∀ W,Below wr.heap.size wr W→IntsX lo W (.slice va rs[k].told.length vc) rs[k].told∧LentV hi W (.slice va rs[k].told.length vc) sa sc rs[k].told):=by
    intro W hb;refine⟨(hv.below (hW.out.only.below (by omega) (fun y hy=>Hns.out y (by omega)))).below (hb.mono (by omega)),LentV.below ?_ hb⟩
    rcases hlv with hL|⟨c,q1,q2,q3,q4,q5,q6,q7⟩
    ·exact .inl hL
    ·have hblk:=hW.out.tolds k _ c (Nat.le_refl _) hsk q1;have hon:Only (fun y=>y≠c) w wr:=⟨hW.out.only.os,hW.out.only.tape,hW.out.only.output,hW.out.only.size,fun y hy hn=>by simp at hn;subst hn;exact hblk⟩
     exact .inr ⟨c,q1,q2,q3,q4,by omega,q6.only hon (by simp),q7.only hon (by simp)⟩
   have HSK:=aB hsk;have Hsep:Hid (∀ c,sa=some ⟨c,0,none⟩→c≠g∧c≠h∧hi≤c∧c<w.heap.size):=fun c hc=>Hx.out.sep k _ c hsk hc;clear hg0 hh0 hb0 hv hlv hrk hsk;generalize rs[k]=r at hG hB hH HV;obtain⟨⟨rt,rn,rk,re⟩,tl⟩:=r;have g0:=hG.c0;have g1:=hG.c1;have g2:=hG.c2;have g3:=hG.c3;have g4:=hG.c4;have b0:=hB.c0;have b1:=hB.c1;have b2:=hB.c2;have b3:=hB.c3;have b4:=hB.c4;simp only at g0 g1 g2 g3 g4 b0 b1 b2 b3 b4 hH HV;have HS:Hid (∀ W,Calls Tryz.prog 20 #[.agg #[.int .i64 rn,.int .i64 rt,.int .i64 rk,.int .i64 re,.slice sa tl.length sc],.agg #[.int .i64 rn,.int .i64 rt,.int .i64 rk,.int .i64 re,.slice va tl.length vc]] W fun e w'=>e=.returned (.bool true)∧Below W.heap.size W w'):=by
    intro W;refine(lS rn rt rk re rn rt rk re (.slice sa tl.length sc) (.slice va tl.length vc) W).mono ?_;rintro e w' ⟨rfl,hb⟩;exact⟨by simp,hb⟩
   have hbr:b<wr.heap.size:=by omega
   have hgr:g<wr.heap.size:=by omega
   have hhr:h<wr.heap.size:=by omega
   clear hG hB
   go_wp2_with fail
   go_region_held3 (fun W'=>W'.cell? ⟨g,k*5,none⟩=some (.int .i64 rn)∧W'.cell? ⟨g,k*5+1,none⟩=some (.int .i64 rt)∧W'.cell? ⟨g,k*5+2,none⟩=some (.int .i64 rk)∧W'.cell? ⟨g,k*5+3,none⟩=some (.int .i64 re)∧W'.cell? ⟨g,k*5+4,none⟩=some (.slice sa tl.length sc)∧W'.cell? ⟨b,off+k*5,none⟩=some (.int .i64 rn)∧W'.cell? ⟨b,off+k*5+1,none⟩=some (.int .i64 rt)∧W'.cell? ⟨b,off+k*5+2,none⟩=some (.int .i64 rk)∧W'.cell? ⟨b,off+k*5+3,none⟩=some (.int .i64 re)∧W'.cell? ⟨b,off+k*5+4,none⟩=some (.slice va tl.length vc))
    (first|exact⟨g0,g1,g2,g3,g4,b0,b1,b2,b3,b4⟩|exact⟨aA hb2 g0 hgr,aA hb2 g1 hgr,aA hb2 g2 hgr,aA hb2 g3 hgr,aA hb2 g4 hgr,aA hb2 b0 hbr,aA hb2 b1 hbr,aA hb2 b2 hbr,aA hb2 b3 hbr,aA hb2 b4 hbr⟩)
    (first|(go_at_call 20;refine(HS.out _).mono ?_;rintro e' w2 ⟨rfl,hb2'⟩;(have hb2:Below wr.heap.size wr w2:=(Below.refl _ _).drew.trans hb2')))
   have p4:=aA hb2 g4 hgr;have q4:=aA hb2 b4 hbr;have hb3:=hb2.drew;clear g0 g1 g2 g3 b0 b1 b2 b3 hb2' HS;have dl:((tl.length:Int)==(tl.length:Int))=true:=by simp
   go_wp2_with fail
   go_region
   go_wp2_with fail
   generalize w2.drew=w3 at hb3 ⊢;clear p4 q4 hb2 dl;have p4:=aA hb3 g4 hgr;have q4:=aA hb3 b4 hbr;have h4:=aA hb3 hH hhr;have HX2:=aB (xL lo hi (.slice va tl.length vc) tl sa sc w3.drew (HV.out _ hb3.drew).1 (HV.out _ hb3.drew).2 hlohi);have HB3:Hid (Below wr.heap.size wr w3.drew):=hb3.drew;have HC:Hid (tl.length=0∨∃ c,sa=some ⟨c,0,none⟩):=by
    rcases (HV.out _ hb3.drew).2 with⟨_,_,_,e⟩|⟨c,e,_⟩
    ·rw[e];exact .inl rfl
    ·exact .inr ⟨c,e⟩
   clear HV hb3
   go_region_held3 (fun W'=>W'.cell? ⟨h,k,none⟩=some (.slice sa tl.length sc)∧W'.cell? ⟨b,off+k*5+4,none⟩=some (.slice va tl.length vc))
    (first|exact⟨h4,q4⟩|exact⟨ho4.at hH (fun hc=>(Hsep.out _ hc).2.1 rfl),ho4.at b4 (fun hc=>by have:=(Hsep.out _ hc).2.2.1;omega)⟩)
    (first|(go_at_call 28;refine HX2.out.mono ?_;rintro e' w4 ⟨rfl,ho4',hone⟩;(have ho4:Only (fun x=>sa=some ⟨x,0,none⟩) wr w4:=(Only.new HB3.out).trans ho4')))
   have HSt:=aB (hW.out.step (k:=k) hgw Hcw.out Hx.out.apart (ho4.mono fun y _ hy=>⟨_,HSK.out,hy⟩) aG2 (.slice none 0 0));have hng:¬sa=some ⟨g,0,none⟩:=fun hc=>(Hsep.out _ hc).1 rfl;have z4:=ho4.at g4 hng;have hrm:=hW.out.room.only ho4 hng;obtain⟨s0,f0⟩:=hrm (k*5) (by omega)
   obtain⟨s1,f1⟩:=hrm (k*5+1) (by omega)
   obtain⟨s2,f2⟩:=hrm (k*5+2) (by omega)
   obtain⟨s3,f3⟩:=hrm (k*5+3) (by omega)
   obtain⟨s4,f4⟩:=hrm (k*5+4) (by omega)
   obtain⟨u0,hu0⟩:=Option.isSome_iff_exists.1 s0;obtain⟨u1,hu1⟩:=Option.isSome_iff_exists.1 s1;obtain⟨u2,hu2⟩:=Option.isSome_iff_exists.1 s2;obtain⟨u3,hu3⟩:=Option.isSome_iff_exists.1 s3;simp only[jA,aG2]at HSt;have HOne:=aB hone;clear hrm s0 s1 s2 s3 s4 hng ho4 ho4' hone HX2 HB3 h4 p4 q4 g4 b4 hH hW Hsep HSK
   by_cases h0:tl.length=0
   ·have h0':((tl.length:Int)==0)=true:=by simp[h0]
    clear h0 HC
    go_wp2_with fail
    go_roundg (rs.length+8-(k+1)+2)
    case measure=>omega
    case rel=>exact⟨k+1,rfl,by go_num,Nat.le_refl _,by omega,HSt.out⟩
   ·have h0':((tl.length:Int)==0)=false:=by simp;intro e;exact h0 (by simp[e])
    obtain⟨c,rfl⟩:∃ c,sa=some ⟨c,0,none⟩:=by
     rcases HC.out with e|e
     ·exact absurd e h0
     ·exact e
    have c1:=HOne.out c rfl;have hpos:0<tl.length:=by omega
    have hpos':(0:Int)<(tl.length:Int):=by omega
    clear h0 HC
    go_wp2_with fail
    go_roundg (rs.length+8-(k+1)+2)
    case measure=>omega
    case rel=>exact⟨k+1,rfl,by go_num,Nat.le_refl _,by omega,HSt.out⟩
  ·by_cases hlt8:k<rs.length+8
   ·have hk8:(k:Int)<(rs.length:Int)+8:=by omega
    have d1:decide ((k:Int)<(rs.length:Int)+8)=true:=by simp;omega
    have d2:decide ((k:Int)<(rs.length:Int))=false:=by simp;omega
    have d3:decide (k<rs.length)=false:=by simp;omega
    have hw:IntKind.i64.wrap ((k:Int)+1)=(k:Int)+1:=by rw[IntKind.wrap_i64];omega
    have hg0:=HSp.out k (by omega) hlt8
    have g0:=(hW.out.cells _ (by omega) (by omega)).trans hg0.c0
    have g1:=(hW.out.cells _ (by omega) (by omega)).trans hg0.c1
    have g2:=(hW.out.cells _ (by omega) (by omega)).trans hg0.c2
    have g3:=(hW.out.cells _ (by omega) (by omega)).trans hg0.c3
    have g4:=(hW.out.cells _ (by omega) (by omega)).trans hg0.c4
    simp only[r77]at g0 g1 g2 g3 g4;have HS:Hid (∀ W,Calls Tryz.prog 20 #[.agg #[.int .i64 77,.int .i64 0,.int .i64 0,.int .i64 0,.slice none 0 0],.agg #[.int .i64 77,.int .i64 0,.int .i64 0,.int .i64 0,.slice none 0 0]] W fun e w'=>e=.returned (.bool true)∧Below W.heap.size W w'):=by
     intro W;refine(lS 77 0 0 0 77 0 0 0 (.slice none 0 0) (.slice none 0 0) W).mono ?_;rintro e w' ⟨rfl,hb⟩;exact⟨by simp,hb⟩
    have hgr:g<wr.heap.size:=by omega
    clear hg0
    go_wp2_with fail
    refine(HS.out _).mono ?_;rintro e w2 ⟨rfl,hb2⟩;have p4:=aA hb2 g4 hgr;have HSt:=aB ((hW.out.below hgw Hcw.out hb2).step (k:=k) hgw Hcw.out Hx.out.apart (Only.refl _ _) aG2 (.slice none 0 0));have hrm:=hW.out.room.below hb2 hgr;obtain⟨s0,f0⟩:=hrm (k*5) (by omega)
    obtain⟨s1,f1⟩:=hrm (k*5+1) (by omega)
    obtain⟨s2,f2⟩:=hrm (k*5+2) (by omega)
    obtain⟨s3,f3⟩:=hrm (k*5+3) (by omega)
    obtain⟨s4,f4⟩:=hrm (k*5+4) (by omega)
    obtain⟨u0,hu0⟩:=Option.isSome_iff_exists.1 s0;obtain⟨u1,hu1⟩:=Option.isSome_iff_exists.1 s1;obtain⟨u2,hu2⟩:=Option.isSome_iff_exists.1 s2;obtain⟨u3,hu3⟩:=Option.isSome_iff_exists.1 s3;simp only[jA,aG2]at HSt;clear hrm s0 s1 s2 s3 s4 g0 g1 g2 g3 g4 hW hb2 HS
    go_wp2_with fail
    go_roundg (rs.length+8-(k+1)+2)
    case measure=>omega
    case rel=>exact⟨k+1,rfl,by go_num,Nat.le_refl _,by omega,HSt.out⟩
   ·have d1:decide ((k:Int)<(rs.length:Int)+8)=false:=by simp;omega
    go_wp2_with fail
    go_ret;exact⟨rfl,hW.out.only⟩
theorem kS(a b:Mom)(w:World) :
  Calls Tryz.prog 140 #[.agg #[.int .i64 a.time,.int .i64 a.number],.agg #[.int .i64 b.time,.int .i64 b.number]] w fun e w'=>e=.returned (.bool (bB a b))∧Below w.heap.size w w':=by
 by_cases h1:a.time<b.time
 ·have h1':decide (a.time<b.time)=true:=by simpa using h1
  go_enter Tryz.func140,Tryz.ntmps140
  go_wp2
  go_ret;exact⟨by simp[bB,h1],((Below.refl _ _).alloc (Nat.le_refl _) _).alloc (by simp) _⟩
 ·have h1':decide (a.time<b.time)=false:=by simpa using h1
  by_cases h2:a.time=b.time
  ·have h2':(a.time==b.time)=true:=by simpa using h2
   have H2:=aB h2;clear h2 h1
   go_enter Tryz.func140,Tryz.ntmps140
   go_wp2
   go_ret;exact⟨by simp[bB,H2.out],((Below.refl _ _).alloc (Nat.le_refl _) _).alloc (by simp) _⟩
  ·have h2':(a.time==b.time)=false:=by simpa using h2
   go_enter Tryz.func140,Tryz.ntmps140
   go_wp2
   go_ret;exact⟨by simp[bB,h1,h2],((Below.refl _ _).alloc (Nat.le_refl _) _).alloc (by simp) _⟩
def MomIn(cur:Array Value)(f:Nat→Mom)(n:Nat):Prop:=∀ i,i<n→cur[i*2]?=some (.int .i64 (f i).time)∧cur[i*2+1]?=some (.int .i64 (f i).number)
def RowB(w:World)(b T S:Nat)(f:Nat→Mom)(n:Nat):Prop:=∃ cur:Array Value,w.heap[b]?=some (.cells cur T (0,0))∧cur.size=S∧MomIn cur f n
theorem RowB.lt{w:World}{b T S n:Nat}{f:Nat→Mom}(h:RowB w b T S f n):b<w.heap.size:=by
 obtain⟨cur,h1,_⟩:=h;exact(Array.getElem?_eq_some_iff.1 h1).1
theorem RowB.cell{w:World}{b T S n:Nat}{f:Nat→Mom}(h:RowB w b T S f n){i:Nat}(hi:i<n) :
  w.cell? ⟨b,i*2,none⟩=some (.int .i64 (f i).time)∧w.cell? ⟨b,i*2+1,none⟩=some (.int .i64 (f i).number)∧w.frozen? ⟨b,i*2,none⟩=false∧w.frozen? ⟨b,i*2+1,none⟩=false:=by
 obtain⟨cur,h1,h2,h3⟩:=h;obtain⟨h4,h5⟩:=h3 i hi;simp[World.cell?,World.frozen?,h1,h4,h5]
theorem RowB.below{w w':World}{b T S n:Nat}{f:Nat→Mom}(h:RowB w b T S f n)(hb:Below w.heap.size w w'):RowB w' b T S f n:=by
 have:=h.lt;obtain⟨cur,h1,h2⟩:=h;exact⟨cur,(hb.block b this).trans h1,h2⟩
theorem RowB.only{w w':World}{b T S n:Nat}{f:Nat→Mom}{U:Nat→Prop}(h:RowB w b T S f n)(ho:Only U w w')(hb:¬U b):RowB w' b T S f n:=by
 have:=h.lt;obtain⟨cur,h1,h2⟩:=h;exact⟨cur,(ho.block b this hb).trans h1,h2⟩
theorem RowB.drew{w:World}{b T S n:Nat}{f:Nat→Mom}(h:RowB w b T S f n):RowB w.drew b T S f n:=h
def setM(w:World)(b i:Nat)(m:Mom):World:=(w.setCell ⟨b,i*2,none⟩ (.int .i64 m.time)).setCell ⟨b,i*2+1,none⟩ (.int .i64 m.number)
theorem Only.setM{U:Nat→Prop}{a w:World}{b:Nat}(h:Only U a w)(hb:U b)(i:Nat)(m:Mom):Only U a (setM w b i m):=(h.setCell hb _).setCell hb _
theorem Only.drew{U:Nat→Prop}{a w:World}(h:Only U a w):Only U a w.drew:=h.trans ⟨rfl,rfl,rfl,Nat.le_refl _,fun _ _ _=>rfl⟩
theorem lK{w:World}{b o T:Nat}{cur:Array Value}(h:w.heap[b]?=some (.cells cur T (0,0)))(v:Value):(w.setCell ⟨b,o,none⟩ v).heap[b]?=some (.cells (cur.setIfInBounds o v) T (0,0)):=by
 simp[World.setCell,Array.getElem?_modify,h]
theorem RowB.set{w:World}{b T S n:Nat}{f:Nat→Mom}(h:RowB w b T S f n){i:Nat}(hi:i<n)(m:Mom):RowB (setM w b i m) b T S (dQ f i m) n:=by
 obtain⟨cur,h1,h2,h3⟩:=h;refine⟨(cur.setIfInBounds (i*2) (.int .i64 m.time)).setIfInBounds (i*2+1) (.int .i64 m.number),lK (lK h1 _) _,by simp[h2],?_⟩
 have hs:i*2+1<cur.size:=by
  have:=(h3 i hi).2;exact(Array.getElem?_eq_some_iff.1 this).1
 intro j hj;obtain⟨a,c⟩:=h3 j hj
 by_cases hji:j=i
 ·subst hji;refine⟨?_,?_⟩
  ·rw[Array.getElem?_setIfInBounds_ne (by omega),Array.getElem?_setIfInBounds_self_of_lt (by omega)];simp[dQ]
  ·rw[Array.getElem?_setIfInBounds_self_of_lt (by simp;omega)];simp[dQ]
 ·refine⟨?_,?_⟩
  ·rw[Array.getElem?_setIfInBounds_ne (by omega),Array.getElem?_setIfInBounds_ne (by omega)];simp[dQ,hji,a]
  ·rw[Array.getElem?_setIfInBounds_ne (by omega),Array.getElem?_setIfInBounds_ne (by omega)];simp[dQ,hji,c]
theorem RowB.swap{w:World}{b T S n:Nat}{f:Nat→Mom}(h:RowB w b T S f n){i j:Nat}(hi:i<n)(hj:j<n)(hij:i≠j):RowB (setM (setM w b i (f j)) b j (f i)) b T S (dX f i j) n:=by
 have e:dX f i j=dQ (dQ f i (f j)) j (f i):=by
  funext k
  unfold dX dQ
  by_cases h1:k=i
  ·subst h1;simp[hij]
  ·by_cases h2:k=j
   ·subst h2;simp[Ne.symm hij]
   ·simp[h1,h2]
 rw[e];exact(h.set hi _).set hj _
theorem xS(b T S n cap i0:Nat)(f:Nat→Mom)(w:World)(q:List Ev)(hr:RowB w b T S f n)(hi:i0<n)(hn:n≤17)(hR:RiseF f n i0)(hm:MomsOf f n q) :
  Calls Tryz.prog 132 #[.slice (some ⟨b,0,none⟩) n cap,.int .i64 i0] w fun e w'=>e=.returned (.tuple #[])∧Only (·=b) w w'∧∃ f',RowB w' b T S f' n∧HeapF f' n∧MomsOf f' n q:=by
 go_enter Tryz.func132,Tryz.ntmps132
 go_wp2
 go_loopg [1] (i0+1) (fun g si wr=>∃ (i:Nat) (fk:Nat→Mom),si=.int .i64 i∧i<n∧i+1≤g∧Only (·=b) w wr∧RowB wr b T S fk n∧RiseF fk n i∧MomsOf fk n q)
 case atStart=>exact⟨i0,f,rfl,hi,Nat.le_refl _,Only.refl _ _,hr,hR,hm⟩
 case round=>
  obtain⟨i,fk,rfl,hin,hg,ho,hrk,hRk,hmk⟩:=hrel;have HRk:=aB hRk;have Hmk:=aB hmk;clear hr hR hm hRk hmk
  by_cases h0:i=0
  ·subst h0
   go_wp2
   go_end0
   exact⟨rfl,ho,fk,hrk,HRk.out.done (.inl rfl),Hmk.out⟩
  ·obtain⟨p,hp⟩:∃ p,p=(i-1) / 2:=⟨_,rfl⟩;have hpi:p<i:=by omega
   have hi0:(0:Int)<(i:Int):=by omega
   have hpe:((i:Int)-1).tdiv 2=(p:Int):=by rw[Int.tdiv_eq_ediv_of_nonneg (by omega),hp];omega
   obtain⟨c0,c1,z0,z1⟩:=hrk.cell hin;obtain⟨d0,d1,y0,y1⟩:=hrk.cell (i:=p) (by omega)
   obtain⟨mi,hmi⟩:∃ m,fk i=m:=⟨_,rfl⟩;obtain⟨mp,hmp⟩:∃ m,fk p=m:=⟨_,rfl⟩;rw[hmi]at c0 c1;rw[hmp]at d0 d1;have Hrk:=aB hrk;have Hp:=aB hp;clear hrk hp;rcases hah:bB mi mp with _|_
   ·go_wp2
    go_region_with (go_at_call 140;refine(kS mi mp _).mono ?_;rintro e' w3 ⟨rfl,hb3⟩;rw[hah])
    all_goals
     go_wp2
     refine bodyPost_ret (results_none rfl _ _ _) rfl ?_;have hb4:Below wr.heap.size wr w3:=(Below.refl _ _).drew.trans hb3;exact⟨rfl,ho.trans (Only.new hb4),fk,Hrk.out.below hb4,HRk.out.done (.inr (.inr (by rw[←Hp.out,hmi,hmp,hah]))),Hmk.out⟩
   ·go_wp2
    go_region_with (go_at_call 140;refine(kS mi mp _).mono ?_;rintro e' w3 ⟨rfl,hb3⟩;rw[hah])
    all_goals
     have hb4:Below wr.heap.size wr w3:=(Below.refl _ _).drew.trans hb3;clear hb3;have Hr3:=aB (Hrk.out.below hb4);have Ho3:=aB (ho.trans (Only.new hb4));obtain⟨c0,c1,z0,z1⟩:=Hr3.out.cell hin;obtain⟨d0,d1,y0,y1⟩:=Hr3.out.cell (i:=p) (by omega)
     rw[hmi]at c0 c1;rw[hmp]at d0 d1;clear hb4 Hrk ho
     go_wp2
     go_region
     all_goals
      go_wp2
      go_roundg (p+1)
      case measure=>omega
      case rel=>
       have hA:bB (fk i) (fk ((i-1) / 2))=true:=by rw[←Hp.out,hmi,hmp,hah]
       have hsw:=Hr3.out.swap hin (j:=p) (by omega) (by omega)
       rw[hmi,hmp]at hsw;exact⟨p,dX fk i p,by go_num,by omega,Nat.le_refl _,((Ho3.out.setM rfl _ _).setM rfl _ _).drew,hsw.drew,by have:=HRk.out.swap (by omega) hin hA;rwa [←Hp.out]at this,Hmk.out.swap hin (by omega)⟩
end Go.Proofs.YtndlmgocldckfaaGreat
