import Derived.Test.YtndlmgocldckfaaGreatG36
import Derived.Deep.LoopGhost
import Derived.Deep.RegionHeld3
import Derived.Test.YtndlmgocldckfaaGreatG40
import Derived.Test.YtndlmgocldckfaaGreatG42
import Derived.Test.YtndlmgocldckfaaGreatLwY
import Derived.Test.YtndlmgocldckfaaGreatG39
namespace Go.Proofs.YtndlmgocldckfaaGreat
open Go.RowKit
set_option linter.unusedVariables false
set_option linter.unusedSimpArgs false
set_option maxRecDepth 100000
set_option maxHeartbeats 4000000
def mkV(i:Nat):Value:=.int .u8 (200+((i / 4 % 50:Nat):Int))
structure ApI(w wr:World)(k:BkD)(G:Option Nat):Prop where
 only:Only (fun b=>∃ v∈k.bl,some b=v.ownBlock) w wr
 fill:∀ (i:Nat) a n c,k.bl[i]?=some (.slice a n c)→G≠some (i / 4)→∀ j,j<n→∃ b,a=some ⟨b,0,none⟩∧wr.cell? ⟨b,j,none⟩=some (mkV i)
 cell:∀ (i:Nat) a n c,k.bl[i]?=some (.slice a n c)→n≤1000000000∧∀ j,j<n→∃ b u,a=some ⟨b,0,none⟩∧wr.cell? ⟨b,j,none⟩=some u∧wr.frozen? ⟨b,j,none⟩=false
theorem ApI.start{w:World}{k:BkD}(h:BkOK w k):ApI w w k none:=by
 refine⟨Only.refl _ _,fun i a n c hi _ j hj=>?_,fun i a n c hi=>?_⟩
 ·obtain⟨m,hm,a',c',e,hx⟩:=h.bent i _ hi;simp only[Value.slice.injEq]at e;obtain⟨rfl,rfl,rfl⟩:=e;obtain⟨b,rfl,hr⟩:=hx (by omega)
  have:=hr j _ (rD hj);rw[Nat.zero_add]at this;exact⟨b,rfl,this⟩
 ·obtain⟨m,hm,a',c',e,hx⟩:=h.bent i _ hi;simp only[Value.slice.injEq]at e;obtain⟨rfl,rfl,rfl⟩:=e;refine⟨hm,fun j hj=>?_⟩;obtain⟨b,rfl,hr⟩:=hx (by omega)
  have hc:=hr j _ (rD hj);rw[Nat.zero_add]at hc;exact⟨b,_,rfl,hc,(h.free _ (List.mem_of_getElem? hi) b rfl).2 j _ hc⟩
theorem ApI.below{w wr wr':World}{k:BkD}{G:Option Nat}(h:ApI w wr k G)(hb:Below wr.heap.size wr wr'):ApI w wr' k G:=by
 refine⟨h.only.trans (Only.new hb),fun i a n c hi hG j hj=>?_,fun i a n c hi=>⟨(h.cell i a n c hi).1,fun j hj=>?_⟩⟩
 ·obtain⟨b,rfl,hc⟩:=h.fill i a n c hi hG j hj;exact⟨b,rfl,aA hb hc (aC hc)⟩
 ·obtain⟨b,u,rfl,hc,hf⟩:=(h.cell i a n c hi).2 j hj;exact⟨b,u,rfl,aA hb hc (aC hc),(hb.frozen (p:=⟨b,j,none⟩) (aC hc)).trans hf⟩
theorem ApI.weak{w wr:World}{k:BkD}(h:ApI w wr k none)(G:Nat):ApI w wr k (some G):=⟨h.only,fun i a n c hi _=>h.fill i a n c hi (by simp),h.cell⟩
theorem ApI.set{w wr:World}{k:BkD}{G i n c b j:Nat}(h:ApI w wr k (some G))(hok:BkOK w k)(hi:k.bl[i]?=some (.slice (some ⟨b,0,none⟩) n c))(hG:i / 4=G)(x:Value):ApI w (wr.setCell ⟨b,j,none⟩ x) k (some G):=by
 refine⟨h.only.setCell (p:=⟨b,j,none⟩) ⟨_,List.mem_of_getElem? hi,rfl⟩ _,fun i' a n' c' hi' hne j' hj'=>?_,fun i' a n' c' hi'=>⟨(h.cell i' a n' c' hi').1,fun j' hj'=>?_⟩⟩
 ·obtain⟨b',rfl,hc⟩:=h.fill i' a n' c' hi' hne j' hj';refine⟨b',rfl,?_⟩;have hbb:b'≠b:=by
   intro e;subst e;have:=hok.bsep i i' _ _ b' hi hi' rfl rfl;exact hne (by rw[←this,hG])
  rw[World.cell?_setCell_other _ _ _ _ (fun e=>hbb (congrArg Addr.block e).symm)];exact hc
 ·obtain⟨b',u,rfl,hc,hf⟩:=(h.cell i' a n' c' hi').2 j' hj'
  by_cases e:(⟨b,j,none⟩:Addr)=⟨b',j',none⟩
  ·refine⟨b',x,rfl,?_,by rw[World.frozen?_setCell];exact hf⟩
   rw[e];exact World.cell?_setCell_same' _ _ _ (by rw[hc];rfl)
  ·exact⟨b',u,rfl,by rw[World.cell?_setCell_other _ _ _ _ e];exact hc,by rw[World.frozen?_setCell];exact hf⟩
structure ApM(w wr:World)(k:BkD)(G i j:Nat):Prop where
 ap:ApI w wr k (some G)
 done:∀ (i':Nat) a n c,k.bl[i']?=some (.slice a n c)→i' / 4=G→∀ j',j'<n→(i'<i∨(i'=i∧j'<j))→∃ b,a=some ⟨b,0,none⟩∧wr.cell? ⟨b,j',none⟩=some (mkV (4*G))
theorem uZ{i G:Nat}(h:i / 4=G):mkV i=mkV (4*G):=by
 unfold mkV;congr 4;omega
theorem ApM.set{w wr:World}{k:BkD}{G i n c b j:Nat}(h:ApM w wr k G i j)(hok:BkOK w k)(hi:k.bl[i]?=some (.slice (some ⟨b,0,none⟩) n c))(hG:i / 4=G)(hj:j<n):ApM w (wr.setCell ⟨b,j,none⟩ (mkV i)) k G i (j+1):=by
 refine⟨h.ap.set hok hi hG _,fun i' a n' c' hi' hG' j' hj' hd=>?_⟩;rw[uZ hG];obtain⟨b',u,rfl,hc,hf⟩:=(h.ap.cell i' a n' c' hi').2 j' hj';refine⟨b',rfl,?_⟩
 by_cases e:(⟨b,j,none⟩:Addr)=⟨b',j',none⟩
 ·rw[e];exact World.cell?_setCell_same' _ _ _ (by rw[hc];rfl)
 ·rw[World.cell?_setCell_other _ _ _ _ e];have hd':i'<i∨(i'=i∧j'<j):=by
   rcases hd with hd|⟨hd,hd2⟩
   ·exact .inl hd
   ·refine .inr ⟨hd,?_⟩;subst hd;rw[hi]at hi';simp only[Option.some.injEq,Value.slice.injEq,Addr.mk.injEq]at hi';have hbb:b=b':=hi'.1.1;rcases Nat.lt_or_ge j' j with hl|hl
    ·exact hl
    ·exfalso
     have:j'=j:=by omega
     subst this;exact e (by rw[hbb])
  obtain⟨b2,e2,hc2⟩:=h.done i' _ n' c' hi' hG' j' hj' hd';simp only[Option.some.injEq,Addr.mk.injEq]at e2;rw[e2.1];exact hc2
theorem ApM.end{w wr:World}{k:BkD}{G i j:Nat}(h:ApM w wr k G i j)(hi:4*G+4≤i):ApI w wr k none:=by
 refine⟨h.ap.only,fun i' a n c hi' _ j' hj'=>?_,h.ap.cell⟩
 by_cases e:i' / 4=G
 ·rw[uZ e];exact h.done i' a n c hi' e j' hj' (.inl (by omega))
 ·exact h.ap.fill i' a n c hi' (by simp;omega) j' hj'
theorem aBs(wb:Nat)(k:BkD)(w:World)(h:BkP w wb k)(h4:k.bl.length % 4=0)(hlb:k.bl.length≤1099511627776) :
  Calls Tryz.prog 13 #[.pointer (some ⟨wb,1,none⟩)] w fun e w'=>e=.returned (.bool true)∧Only (fun b=>∃ v∈k.bl,some b=v.ownBlock) w w':=by
 have H:=aB h;have hwl:=h.lt;obtain⟨ba,bc,hbv⟩:=aM h.ok.bown;have c1:=h.c1;rw[hbv]at c1;have Hbv:=aB hbv;have HS:Hid (ApI w w k none):=ApI.start h.ok;have HC1:Hid (∀ wr,Only (fun b=>∃ v∈k.bl,some b=v.ownBlock) w wr→wr.cell? ⟨wb,1,none⟩=some (.slice ba k.bl.length bc)):=by
  intro wr ho;exact ho.at c1 (fun⟨v,hv,hb⟩=>h.nw (.inl ⟨v,.inl hv,hb⟩))
 have HRow:Hid (∀ (i:Nat) v,k.bl[i]?=some v→∃ g,ba=some ⟨g,0,none⟩∧(∀ wr,Only (fun b=>∃ v∈k.bl,some b=v.ownBlock) w wr→wr.cell? ⟨g,i,none⟩=some v)∧(∀ b,some b=v.ownBlock→b≠g∧b≠wb)∧∃ a n c,v=.slice a n c):=by
  intro i v hv;obtain⟨g,cap,hg,cg⟩:=rE h.ok.bown hv;obtain⟨m,hm,a,c,e,_⟩:=h.ok.bent i v hv;rw[hbv]at hg;simp only[Value.slice.injEq,true_and]at hg;have hrows:k.rows g:=.inl (by rw[hbv,hg.1];rfl)
  refine⟨g,hg.1,fun wr ho=>ho.at cg (fun⟨u,hu,hb⟩=>h.ok.sep g ⟨u,.inl hu,hb⟩ hrows),fun b hb=>⟨fun e'=>h.ok.sep b ⟨v,.inl (List.mem_of_getElem? hv),hb⟩ (e'▸hrows),fun e'=>h.nw (e'▸.inl ⟨v,.inl (List.mem_of_getElem? hv),hb⟩)⟩,a,m,c,e⟩
 have HOK:Hid (BkOK w k):=h.ok;clear h hbv c1
 go_enter Tryz.func13,Tryz.ntmps13
 go_wp2_with fail
 go_loopg [3,4,5,6,7,8] (k.bl.length+10) (fun g s3 _ _ _ _ _ wr=>∃ (N:Nat),s3=.int .i64 N∧N≤k.bl.length∧k.bl.length-N+5≤g∧Hid (N % 4=0∧ApI w wr k none))
 case atStart=>exact⟨0,rfl,by omega,by omega,rfl,HS.out⟩
 case round=>
  obtain⟨N,rfl,hNl,hg,hI⟩:=hrel;clear HS;have k1:=HC1.out _ hI.out.2.only
  by_cases hlt:N<k.bl.length
  ·have d1:decide ((N:Int)<(k.bl.length:Int))=true:=by simp;omega
   have hN4:N+4≤k.bl.length:=by have:=hI.out.1;omega
   have hwN:wrap64 ((N:Int)+4)=(N:Int)+4:=by simp only[wrap64];omega
   have hwN2:IntKind.i64.wrap ((N:Int)+4)=(N:Int)+4:=by rw[IntKind.wrap_i64];omega
   have HM:=aB hI.out.1;have HA:Hid (ApI w wr k (some (N / 4))):=hI.out.2.weak _;rename World=>wq;clear hI
   go_wp2_with fail
   go_loopg [4,5] 10 (fun gg s4 _ wr=>∃ (i:Nat),s4=.int .i64 i∧N≤i∧i≤N+4∧N+4-i+2≤gg∧Hid (ApI w wr k (some (N / 4))))
   case atStart=>exact⟨N,rfl,by omega,by omega,by omega,HA.out⟩
   case round=>
    obtain⟨i,rfl,hi1,hi2,hgg,hJ⟩:=hrel;clear HA;have k2:=HC1.out _ hJ.out.only
    by_cases hi4:i<N+4
    ·have d2:decide ((i:Int)<(N:Int)+4)=true:=by simp;omega
     have hil:(i:Int)<(k.bl.length:Int):=by omega
     have hwi:IntKind.i64.wrap ((i:Int)+1)=(i:Int)+1:=by rw[IntKind.wrap_i64];omega
     obtain⟨v,hv⟩:∃ v,k.bl[i]?=some v:=⟨k.bl[i]'(by omega),List.getElem?_eq_getElem _⟩
     obtain⟨bg,hba,hbc,hbs,a,n,c,rfl⟩:=HRow.out i v hv;subst hba;have HBc:=aB hbc;have HBs:=aB hbs;have HV:=aB hv;rename World=>wy;clear hbc hbs hv k2
     go_wp2_with fail
     go_loopg [5] (n+3) (fun ggg s5 wr=>∃ (j:Nat),s5=.int .i64 j∧j≤n∧n-j+2≤ggg∧Hid (ApI w wr k (some (N / 4))))
     case atStart=>exact⟨0,rfl,by omega,by omega,hJ.out⟩
     case round=>
      obtain⟨j,rfl,hj,hggg,hL⟩:=hrel;have k3:=HC1.out _ hL.out.only;have k4:=HBc.out _ hL.out.only;have hn9:=(hL.out.cell i a n c HV.out).1
      by_cases hjn:j<n
      ·have d3:decide ((j:Int)<(n:Int))=true:=by simp;omega
       have hjj:(j:Int)<(n:Int):=by omega
       have hwj:IntKind.i64.wrap ((j:Int)+1)=(j:Int)+1:=by rw[IntKind.wrap_i64];omega
       obtain⟨b,u,rfl,hcu,hfu⟩:=(hL.out.cell i a n c HV.out).2 j hjn;have HN:Hid (ApI w (wr.setCell ⟨b,j,none⟩ (.int .u8 7)) k (some (N / 4))):=hL.out.set HOK.out HV.out (by have:=HM.out;omega) _
       clear hL
       go_wp2_with fail
       go_roundg (n-(j+1)+2)
       case measure=>omega
       case rel=>exact⟨j+1,by go_num,by omega,Nat.le_refl _,HN.out⟩
      ·have d3:decide ((j:Int)<(n:Int))=false:=by simp;omega
       go_wp2_with fail
       go_roundg (N+4-(i+1)+2)
       case measure=>omega
       case rel=>exact⟨i+1,by go_num,by omega,by omega,Nat.le_refl _,hL.out⟩
    ·have d2:decide ((i:Int)<(N:Int)+4)=false:=by simp;omega
     have HB:=aB hJ.out;rename World=>wy;clear hJ hi1 hi2 hgg hi4
     go_wp2_with fail
     clear d2 k2
     go_loopg [6] (k.bl.length+3) (fun gg s6 wr=>∃ (i:Nat),s6=.int .i64 i∧i≤k.bl.length∧k.bl.length-i+2≤gg∧Hid (ApI w wr k (some (N / 4))))
     case atStart=>exact⟨0,rfl,by omega,by omega,HB.out⟩
     case round=>
      obtain⟨i,rfl,hi,hgg,hJ⟩:=hrel;clear HB;have k2:=HC1.out _ hJ.out.only;rename World=>wz
      by_cases hil:i<k.bl.length
      ·have d2:decide ((i:Int)<(k.bl.length:Int))=true:=by simp;omega
       have hii:(i:Int)<(k.bl.length:Int):=by omega
       have hwi:IntKind.i64.wrap ((i:Int)+1)=(i:Int)+1:=by rw[IntKind.wrap_i64];omega
       obtain⟨v,hv⟩:∃ v,k.bl[i]?=some v:=⟨k.bl[i]'(by omega),List.getElem?_eq_getElem _⟩
       obtain⟨bg,hba,hbc,hbs,a,n,c,rfl⟩:=HRow.out i v hv;subst hba;have k4:=hbc _ hJ.out.only;have HD:Hid (∀ q,ApI w (wz.drewN q) k (some (N / 4))):=fun q=>hJ.out.below (below_drewN (Below.refl _ _) q)
       by_cases hin:N≤i∧i<N+4
       ·have e1:decide ((i:Int)<(N:Int))=false:=by simp;omega
        have e1':decide (i<N)=false:=by simp;omega
        have e2:decide ((N:Int)+4≤(i:Int))=false:=by simp;omega
        clear hin hbc hbs hv hJ
        go_wp2_with fail
        go_quiet (fail)
        go_wp2_with fail
        go_roundg (k.bl.length-(i+1)+2)
        case measure=>omega
        case rel=>exact⟨i+1,by go_num,by omega,Nat.le_refl _,HD.out _⟩
       ·have HFl:Hid (∀ j,j<n→∃ b,a=some ⟨b,0,none⟩∧wz.cell? ⟨b,j,none⟩=some (mkV i)):=hJ.out.fill i a n c hv (by have:=HM.out;simp;omega)
        have hn9:=(hJ.out.cell i a n c hv).1;have hx7:((200+((i / 4 % 50:Nat):Int))==7)=false:=by simp;omega
        unfold mkV at HFl;generalize (200+((i / 4 % 50:Nat):Int))=x at HFl hx7;clear hbc hbs hv hJ
        by_cases hn0:0<n
        ·have dn:decide ((0:Int)<(n:Int))=true:=by simp;omega
         have dn':decide (0<n)=true:=by simpa using hn0
         obtain⟨b,rfl,cx0⟩:=HFl.out 0 hn0;obtain⟨b',hb',cx1⟩:=HFl.out (n-1) (by omega)
         simp only[Option.some.injEq,Addr.mk.injEq]at hb';obtain⟨rfl,_⟩:=hb';obtain⟨n',rfl⟩:∃ n',n=n'+1:=⟨n-1,by omega⟩
         simp only[Nat.add_sub_cancel]at cx1;have hwn:wrap64 (((n'+1:Nat):Int)-1)=(n':Int):=by simp only[wrap64];omega
         have hwn2:wrap64 ((n':Int)+1-1)=(n':Int):=by simp only[wrap64];omega
         by_cases hiN:i<N
         ·have e1:decide ((i:Int)<(N:Int))=true:=by simp;omega
          have e1':decide (i<N)=true:=by simpa using hiN
          clear hin HFl
          go_wp2_with fail
          go_quiet (fail)
          go_wp2_with fail
          go_roundg (k.bl.length-(i+1)+2)
          case measure=>omega
          case rel=>exact⟨i+1,by go_num,by omega,Nat.le_refl _,HD.out _⟩
         ·have e1:decide ((i:Int)<(N:Int))=false:=by simp;omega
          have e1':decide (i<N)=false:=by simpa using hiN
          have e2:decide ((N:Int)+4≤(i:Int))=true:=by simp;omega
          clear hin HFl
          go_wp2_with fail
          go_quiet (fail)
          go_wp2_with fail
          go_roundg (k.bl.length-(i+1)+2)
          case measure=>omega
          case rel=>exact⟨i+1,by go_num,by omega,Nat.le_refl _,HD.out _⟩
        ·have dn:decide ((0:Int)<(n:Int))=false:=by simp;omega
         have dn':decide (0<n)=false:=by simpa using hn0
         by_cases hiN:i<N
         ·have e1:decide ((i:Int)<(N:Int))=true:=by simp;omega
          have e1':decide (i<N)=true:=by simpa using hiN
          clear hin HFl
          go_wp2_with fail
          go_quiet (fail)
          go_wp2_with fail
          go_roundg (k.bl.length-(i+1)+2)
          case measure=>omega
          case rel=>exact⟨i+1,by go_num,by omega,Nat.le_refl _,HD.out _⟩
         ·have e1:decide ((i:Int)<(N:Int))=false:=by simp;omega
          have e1':decide (i<N)=false:=by simpa using hiN
          have e2:decide ((N:Int)+4≤(i:Int))=true:=by simp;omega
          clear hin HFl
          go_wp2_with fail
          go_quiet (fail)
          go_wp2_with fail
          go_roundg (k.bl.length-(i+1)+2)
          case measure=>omega
          case rel=>exact⟨i+1,by go_num,by omega,Nat.le_refl _,HD.out _⟩
      ·have d2:decide ((i:Int)<(k.bl.length:Int))=false:=by simp;omega
       have HB:Hid (ApM w wz k (N / 4) N 0):=⟨hJ.out,fun i' a n c hi' hG j' hj' hd=>by have:=HM.out;omega⟩
       clear hJ
       go_wp2_with fail
       clear d2 k2 hi hgg hil
       go_loopg [7,8] 10 (fun gg s7 _ wr=>∃ (i:Nat),s7=.int .i64 i∧N≤i∧i≤N+4∧N+4-i+2≤gg∧Hid (ApM w wr k (N / 4) i 0))
       case atStart=>exact⟨N,rfl,by omega,by omega,by omega,HB.out⟩
       case round=>
        obtain⟨i,rfl,hi1,hi2,hgg,hJ⟩:=hrel;clear HB;have k2:=HC1.out _ hJ.out.ap.only;rename World=>wy2
        by_cases hi4:i<N+4
        ·have d2:decide ((i:Int)<(N:Int)+4)=true:=by simp;omega
         have hil:(i:Int)<(k.bl.length:Int):=by omega
         have hwi:IntKind.i64.wrap ((i:Int)+1)=(i:Int)+1:=by rw[IntKind.wrap_i64];omega
         obtain⟨v,hv⟩:∃ v,k.bl[i]?=some v:=⟨k.bl[i]'(by omega),List.getElem?_eq_getElem _⟩
         obtain⟨bg,hba,hbc,hbs,a,n,c,rfl⟩:=HRow.out i v hv;subst hba;have HBc:=aB hbc;have HBs:=aB hbs;have HV:=aB hv;have Hi4:Hid (i / 4=N / 4):=by show _=_;have:=HM.out;omega
         clear hbc hbs hv k2
         go_wp2_with fail
         go_loopg [8] (n+3) (fun ggg s8 wr=>∃ (j:Nat),s8=.int .i64 j∧j≤n∧n-j+2≤ggg∧Hid (ApM w wr k (N / 4) i j))
         case atStart=>exact⟨0,rfl,by omega,by omega,hJ.out⟩
         case round=>
          obtain⟨j,rfl,hj,hggg,hL⟩:=hrel;have k3:=HC1.out _ hL.out.ap.only;have k4:=HBc.out _ hL.out.ap.only;have hn9:=(hL.out.ap.cell i a n c HV.out).1
          by_cases hjn:j<n
          ·have d3:decide ((j:Int)<(n:Int))=true:=by simp;omega
           have hjj:(j:Int)<(n:Int):=by omega
           have hwj:IntKind.i64.wrap ((j:Int)+1)=(j:Int)+1:=by rw[IntKind.wrap_i64];omega
           obtain⟨b,u,rfl,hcu,hfu⟩:=(hL.out.ap.cell i a n c HV.out).2 j hjn;have hb1:=(HBs.out b rfl).1;have hb2:=(HBs.out b rfl).2;have HN:Hid (ApM w (wr.setCell ⟨b,j,none⟩ (mkV i)).drew k (N / 4) i (j+1)):=by
            have hq:=hL.out.set HOK.out HV.out Hi4.out hjn;exact⟨hq.ap.below (Below.refl _ _).drew,fun i' a n c h1 h2 j' h3 h4=>by
             obtain⟨b',e,hc⟩:=hq.done i' a n c h1 h2 j' h3 h4;exact⟨b',e,hc⟩⟩
           unfold mkV at HN;have HMk:=aB (fun W=>rK i W (by omega))
           generalize (200+((i / 4 % 50:Nat):Int))=x at HN HMk;clear hL
           go_wp2_with fail
           go_region_held3 (fun W'=>W'.cell? ⟨wb,1,none⟩=some (.slice (some ⟨bg,0,none⟩) k.bl.length bc)∧W'.cell? ⟨bg,i,none⟩=some (.slice (some ⟨b,0,none⟩) n c))
            (first|exact⟨k3,k4⟩|exact⟨(World.cell?_setCell_other _ _ _ _ (fun e=>hb2 (congrArg Addr.block e))).trans k3,(World.cell?_setCell_other _ _ _ _ (fun e=>hb1 (congrArg Addr.block e))).trans k4⟩)
            (first|(go_at_call 19;refine(HMk.out _).mono ?_;rintro e' w6 ⟨rfl,hw6⟩;rw[hw6];clear hw6 w6))
           go_wp2_with fail
           go_roundg (n-(j+1)+2)
           case measure=>omega
           case rel=>exact⟨j+1,by go_num,by omega,Nat.le_refl _,HN.out⟩
          ·have d3:decide ((j:Int)<(n:Int))=false:=by simp;omega
           have HN:Hid (ApM w wr k (N / 4) (i+1) 0):=⟨hL.out.ap,fun i' a' n' c' h1 h2 j' h3 h4=>hL.out.done i' a' n' c' h1 h2 j' h3 (by
            rcases h4 with h4|⟨_,h4⟩
            ·rcases Nat.lt_or_ge i' i with h5|h5
             ·exact .inl h5
             ·have e:i'=i:=by omega
              refine .inr ⟨e,?_⟩;subst e;rw[HV.out]at h1;simp only[Option.some.injEq,Value.slice.injEq]at h1;omega
            ·omega)⟩
           clear hL
           go_wp2_with fail
           go_roundg (N+4-(i+1)+2)
           case measure=>omega
           case rel=>exact⟨i+1,by go_num,by omega,by omega,Nat.le_refl _,HN.out⟩
        ·have d2:decide ((i:Int)<(N:Int)+4)=false:=by simp;omega
         have HE:Hid ((N+4) % 4=0∧ApI w wy2 k none):=⟨by have:=HM.out;omega,hJ.out.end (by have:=HM.out;omega)⟩
         clear hJ
         go_wp2_with fail
         go_roundg (k.bl.length-(N+4)+5)
         case measure=>omega
         case rel=>exact⟨N+4,by go_num,by omega,by omega,HE.out⟩
  ·have d1:decide ((N:Int)<(k.bl.length:Int))=false:=by simp;omega
   go_wp2_with fail
   go_ret;exact⟨rfl,hI.out.2.only⟩
theorem aDw{base:Nat}{wb:Nat}{lv:Value}{ps:List Pair}{k:BkD}{J:Nat}{w:World}(h:Inv base w wb lv ps (aP k))(hG:BkLen J k)(hJ:J≤2000000):Calls Tryz.prog 13 #[.pointer (some ⟨wb,1,none⟩)] w fun e w'=>e=.returned (.bool true)∧Below base w w':=by
 refine(aBs wb k w h.bkp hG.b4 (by have:=hG.bl;omega)).mono ?_
 rintro e w' ⟨rfl,ho⟩;refine⟨rfl,ho.below h.lo ?_⟩;rintro b hb ⟨v,hv,hbv⟩;have:=(h.bks b (.inl ⟨v,.inl hv,hbv⟩)).1;omega
theorem aFg{base:Nat}(wb:Nat)(lv:Value)(ps:List Pair)(k:BkD)(J:Nat)(o:OpD)(w:World)(h:Inv base w wb lv ps (aP k))(ho:OpOK base w o)(hS:pG base w o)(hk:2≤o.kind∧o.kind≤9)(hlen:(ps.length+1)*16≤140737488355328)(hb0:0<base)(hG:BkLen J k)(hJ:J≤2000000) :
  Calls Tryz.prog 11 #[.pointer (some ⟨wb,0,none⟩),.agg #[.int .i64 o.kind,.int .i64 o.a,.int .i64 o.b,.int .i64 o.c,.int .i64 o.d,.int .i64 o.ents,o.kv,o.l,o.rv,o.qv,o.sv]] w
   fun e w'=>e=.returned (.bool true)∧Below base w w'∧∃ lv' ps' bk',ps'.length≤ps.length+1∧Inv base w' wb lv' ps' bk'∧∃ k',bk'=aP k'∧BkLen (J+1) k':=by
 by_cases h2:o.kind=2
 ·refine(aB8 wb lv ps (aP k) o w h ho (.inr h2) hlen hb0).mono ?_;rintro e w' ⟨rfl,hB,lv',ps',hl,hI⟩;exact⟨rfl,hB,lv',ps',_,hl,hI,k,rfl,hG.next⟩
 by_cases h8:o.kind=8
 ·refine(aFj wb lv ps (aP k) o w h ho hS h8 hlen hb0).mono ?_;rintro e w' ⟨rfl,hB,lv',ps',hl,hI⟩;exact⟨rfl,hB,lv',ps',_,hl,hI,k,rfl,hG.next⟩
 by_cases h36:o.kind=3∨o.kind=4∨o.kind=5∨o.kind=6
 ·refine(aG7 wb lv ps k J o w h ho h36 hlen hG hJ).mono ?_;rintro e w' ⟨rfl,hB,lv',ps',bk',hl,hI,k',rfl,hb,_⟩;exact⟨rfl,hB,lv',ps',_,hl,hI,k',rfl,hb⟩
 by_cases hp:ps=[]
 ·subst hp;refine(aB9 wb lv (aP k) o w h (by omega)).mono ?_
  rintro e w' ⟨rfl,hB,lv',ps',hl,hI⟩;exact⟨rfl,hB,lv',ps',_,hl,hI,k,rfl,hG.next⟩
 have hps:=List.length_pos_iff.2 hp
 by_cases h7:o.kind=7
 ·refine pF wb lv ps (aP k) o w h ho (by omega) hps hlen (fun bk=>∃ k',bk=aP k'∧BkLen (J+1) k') ?_
  intro W' p hI hp';rw[h7];refine(aA9 wb lv ps k J _ p o.a o.b o.c o.d o.ents o.kv o.l o.rv o.qv o.sv W' hI hp' hG hJ).mono ?_;rintro e w' ⟨rfl,ho',ps',k',hl,hi,hb⟩;exact⟨rfl,ho',ps',_,hl,hi,k',rfl,hb⟩
 ·have h9:o.kind=9:=by omega
  refine aCf wb lv ps (aP k) o w h ho h9 hps hlen (fun bk=>∃ k',bk=aP k'∧BkLen (J+1) k') ?_;intro W' p hI hp';rw[h9];refine(yE wb lv ps k J _ p o.a o.b o.c o.d o.ents o.kv o.l o.rv o.qv o.sv W' hI hp' hG hJ hlen).mono ?_;rintro e w' ⟨rfl,ho',hO',lv',ps',k',hl,hi,hb⟩;exact⟨rfl,ho',hO',lv',ps',_,hl,hi,k',rfl,hb⟩
theorem yA(k1 k2 dv r:Value):∀ (B:Nat) (w:World),∀ o∈eR k1 k2 dv r,pG B w o:=by
 intro B w o ho;simp only[eR,List.mem_cons,List.not_mem_nil,or_false]at ho;rcases ho with rfl|rfl|rfl|rfl|rfl|rfl|rfl|rfl|rfl|rfl|rfl<;>exact⟨_,rfl,by decide⟩
def traceK(B:Nat)(w:World)(o:OpD):Prop:=pG B w o∧(∃ rs,RecsX B w o.rv rs)∧∃ qs,RecsX B w o.qv qs
theorem wO(B:Nat)(w:World):RecsX B w (.slice none 0 0) []:=⟨by simp,.inl ⟨rfl,rfl⟩⟩
theorem FirstR.recs{B:Nat}{w:World}{r:Value}(h:FirstR B w r):RecsX B w r [⟨⟨10,1,1,0⟩,[-3]⟩]:=by
 obtain⟨rb,tb,rfl,h1,h2,h3,h4⟩:=h;refine⟨by simp,.inr ⟨⟨rb,0,none⟩,rb,0,1,rfl,fun _=>⟨rfl,h1⟩,?_⟩⟩
 intro i r hr;have hi:i=0:=by have:=(List.getElem?_eq_some_iff.1 hr).1;simpa using this
 subst hi;simp at hr;subst hr;refine⟨_,⟨h3 0 _ rfl,h3 1 _ rfl,h3 2 _ rfl,h3 3 _ rfl,h3 4 _ rfl⟩,.inl ⟨by simp,.inr ⟨tb,0,1,rfl,h2,h4⟩⟩⟩
theorem zU(B:Nat)(w:World)(k1 k2 dv r:Value)(h:FirstR B w r):∀ o∈eR k1 k2 dv r,traceK B w o:=by
 intro o ho;refine⟨yA k1 k2 dv r B w o ho,?_⟩;have n:=wO B w;simp only[eR,List.mem_cons,List.not_mem_nil,or_false]at ho;rcases ho with rfl|rfl|rfl|rfl|rfl|rfl|rfl|rfl|rfl|rfl|rfl
 all_goals first|exact⟨⟨_,n⟩,⟨_,n⟩⟩|exact⟨⟨_,h.recs⟩,⟨_,n⟩⟩
theorem traceK.below{B:Nat}{w w':World}{o:OpD}(h:traceK B w o)(hb:Below B w w'):traceK B w' o:=by
 obtain⟨h1,⟨rs,h2⟩,qs,h3⟩:=h;exact⟨h1,⟨rs,h2.below hb⟩,qs,h3.below hb⟩
theorem traceK.mono{B B':Nat}{w:World}{o:OpD}(h:traceK B w o)(hb:B≤B'):traceK B' w o:=by
 obtain⟨h1,⟨rs,h2⟩,qs,h3⟩:=h;exact⟨h1,⟨rs,h2.mono hb⟩,qs,h3.mono hb⟩
theorem zV{P:World→Prop}(wb:Nat)(o:OpD)(w:World)(hk:10≤o.kind∧o.kind≤12)
  (HM:∀ W,Below w.heap.size w W→Calls Tryz.prog 16 #[.pointer (some ⟨wb,0,none⟩),.agg #[.int .i64 o.kind,.int .i64 o.a,.int .i64 o.b,.int .i64 o.c,.int .i64 o.d,.int .i64 o.ents,o.kv,o.l,o.rv,o.qv,o.sv]] W fun e w'=>e=.returned (.bool true)∧P w') :
  Calls Tryz.prog 11 #[.pointer (some ⟨wb,0,none⟩),.agg #[.int .i64 o.kind,.int .i64 o.a,.int .i64 o.b,.int .i64 o.c,.int .i64 o.d,.int .i64 o.ents,o.kv,o.l,o.rv,o.qv,o.sv]] w
   fun e w'=>e=.returned (.bool true)∧P w':=by
 obtain⟨W,hW⟩:∃ W,W=w.alloc (.cells #[.int .i64 o.kind,.int .i64 o.a,.int .i64 o.b,.int .i64 o.c,.int .i64 o.d,.int .i64 o.ents,o.kv,o.l,o.rv,o.qv,o.sv] 41):=⟨_,rfl⟩;have hb:Below w.heap.size w W:=by rw[hW];exact(Below.refl _ _).alloc (Nat.le_refl _) _
 have HM2:=aB (HM W hb);have hk1:(o.kind==1)=false:=by simp;omega
 have hk2:(o.kind==2)=false:=by simp;omega
 have hk8:(o.kind==8)=false:=by simp;omega
 have d1:decide (10≤o.kind)=true:=by simp;omega
 have d2:decide (o.kind≤12)=true:=by simp;omega
 have Hk:=aB hk;clear hk HM
 go_enter Tryz.func11,Tryz.ntmps11
 go_wp2_with fail
 rw[←hW]
 go_wp2_with fail
 refine HM2.out.mono ?_;rintro e w1 ⟨rfl,hP⟩;have HP:=aB hP;clear hP
 go_wp2
 go_ret;exact⟨rfl,HP.out⟩
theorem aB0{base:Nat}(wb:Nat)(lv:Value)(ps:List Pair)(k:BkD)(J:Nat)(o:OpD)(w:World)(h:Inv base w wb lv ps (aP k))(hK:traceK base w o)(hk:10≤o.kind∧o.kind≤12)(hb0:0<base)(hG:BkLen J k)(hJ:J≤2000000) :
  Calls Tryz.prog 11 #[.pointer (some ⟨wb,0,none⟩),.agg #[.int .i64 o.kind,.int .i64 o.a,.int .i64 o.b,.int .i64 o.c,.int .i64 o.d,.int .i64 o.ents,o.kv,o.l,o.rv,o.qv,o.sv]] w
   fun e w'=>e=.returned (.bool true)∧Below base w w'∧∃ lv' ps' bk',ps'.length≤ps.length+1∧Inv base w' wb lv' ps' bk'∧∃ k',bk'=aP k'∧BkLen (J+1) k':=by
 have hbl:=h.lo;refine zV (P:=fun w'=>Below base w w'∧∃ lv' ps' bk',ps'.length≤ps.length+1∧Inv base w' wb lv' ps' bk'∧∃ k',bk'=aP k'∧BkLen (J+1) k') wb o w hk ?_;intro W hW;have hI:=h.below hW;obtain⟨⟨s,hs,hsl⟩,⟨rs,hr⟩,qs,hq⟩:=hK;have hr':=hr.below (hW.mono hbl);have hq':=hq.below (hW.mono hbl)
 by_cases h10:o.kind=10
 ·rw[h10];refine(uB wb lv ps k J o.a o.b o.c o.d o.ents o.kv o.l o.rv o.qv o.sv rs W hI hr' hG hJ hb0).mono ?_;rintro e w' ⟨rfl,hB,k',hI',hL⟩;exact⟨rfl,(hW.mono hbl).trans hB,lv,ps,_,by omega,hI',k',rfl,hL⟩
 by_cases h11:o.kind=11
 ·rw[h11,hs,←vJ s];have hl:=pZ s;refine(uC wb lv ps k J o.a o.b o.c o.d o.ents o.kv o.l o.rv o.qv (yD s) W hI (kX s) (by omega) hG hJ).mono ?_
  rintro e w' ⟨rfl,hB,k',hI',hL⟩;exact⟨rfl,(hW.mono hbl).trans hB,lv,ps,_,by omega,hI',k',rfl,hL⟩
 ·have h12:o.kind=12:=by omega
  rw[h12];refine(rC wb lv ps (aP k) o.a o.b o.c o.d o.ents o.kv o.l o.rv o.qv o.sv rs qs W hI hr' hq' hb0).mono ?_;rintro e w' ⟨rfl,hB⟩;exact⟨rfl,(hW.mono hbl).trans (hB.mono (by have:=hW.size;omega)),lv,ps,_,by omega,hI.below hB,k,rfl,hG.next⟩
def wP:List Int:=[1,2,3,4,5,6,7,8,9,10,11,12]
theorem aB1{k:Int}(h:fD wP k=true):1≤k∧k≤12:=by
 have:k=1∨k=2∨k=3∨k=4∨k=5∨k=6∨k=7∨k=8∨k=9∨k=10∨k=11∨k=12:=by simpa [fD,wP]using h
 omega
theorem aF4(lim:Nat)(hlim:lim≤2000000):PlayX traceK wP lim (fun j bk=>∃ k,bk=aP k∧BkLen j k):=by
 refine⟨⟨aP bk0,⟨bk0,rfl,aFh⟩,aA6⟩,by decide,?_,?_,?_,fun _ _ _ _ h hb=>h.below hb,fun _ _ _ _ h hb=>h.mono hb,fun B w k1 k2 dv r h=>zU B w k1 k2 dv r h⟩
 ·rintro j base wb lv ps bk o w hj h ⟨k,rfl,hG⟩ ho hS hk hlen hb0;have hk:=aB1 hk
  by_cases h1:o.kind=1
  ·refine(aB8 wb lv ps (aP k) o w h ho (.inl h1) hlen hb0).mono ?_;rintro e w' ⟨rfl,hB,lv',ps',hl,hI⟩;exact⟨rfl,hB,lv',ps',_,hl,hI,k,rfl,hG.next⟩
  by_cases h9:o.kind≤9
  ·exact aFg wb lv ps k j o w h ho hS.1 (by omega) hlen hb0 hG (by omega)
  ·exact aB0 wb lv ps k j o w h hS (by omega) hb0 hG (by omega)
 ·rintro j base wb lv ps bk w hj h ⟨k,rfl,hG⟩;exact aE0 h hG (by omega)
 ·rintro j base wb lv ps bk w hj h ⟨k,rfl,hG⟩;exact aDw h hG (by omega)
end Go.Proofs.YtndlmgocldckfaaGreat
