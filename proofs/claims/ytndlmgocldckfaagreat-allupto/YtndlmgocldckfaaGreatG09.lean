import Derived.Test.YtndlmgocldckfaaGreatG08
import Derived.Deep.DeepCutAuto
import Derived.Deep.RegionHeld3
import Derived.MapFrom
import Derived.WideLaws
import Derived.Laws.StructEq
namespace Go.Proofs.YtndlmgocldckfaaGreat
open Go.RowKit
set_option linter.unusedVariables false
set_option linter.unusedSimpArgs false
set_option maxRecDepth 100000
set_option maxHeartbeats 4000000
theorem aDl(b T S n cap i0:Nat)(f:Nat→Mom)(w:World)(q:List Ev)(hr:RowB w b T S f n)(hi:i0<n)(hn:n≤17)(hR:SinkF f n i0 i0)(hm:MomsOf f n q) :
  Calls Tryz.prog 142 #[.slice (some ⟨b,0,none⟩) n cap,.int .i64 i0] w fun e w'=>e=.returned (.tuple #[])∧Only (·=b) w w'∧∃ f',RowB w' b T S f' n∧RiseF f' n i0∧MomsOf f' n q:=by
 go_enter Tryz.func142,Tryz.ntmps142
 go_wp2
 go_loopg [1] (n-i0+1) (fun g si wr=>∃ (i:Nat) (fk:Nat→Mom),si=.int .i64 i∧i<n∧i0≤i∧n-i+1≤g∧Only (·=b) w wr∧RowB wr b T S fk n∧SinkF fk n i0 i∧MomsOf fk n q)
 case atStart=>exact⟨i0,f,rfl,hi,Nat.le_refl _,Nat.le_refl _,Only.refl _ _,hr,hR,hm⟩
 case round=>
  obtain⟨i,fk,rfl,hin,h0i,hg,ho,hrk,hRk,hmk⟩:=hrel;have HRk:=aB hRk;have Hmk:=aB hmk;have Hrk:=aB hrk;have Ho:=aB ho;have H0i:=aB h0i;clear hr hR hm hRk hmk hrk ho h0i;obtain⟨c,hc⟩:∃ c,c=2*i+1:=⟨_,rfl⟩;obtain⟨d,hd⟩:∃ d,d=c+1:=⟨_,rfl⟩;have hce:2*(i:Int)+1=(c:Int):=by omega
  have hde:(c:Int)+1=(d:Int):=by omega
  have Hc:=aB hc;have Hd:=aB hd;clear hc hd
  by_cases c1:c<n
  ·have hgc:decide ((n:Int)≤(c:Int))=false:=by simp;omega
   obtain⟨mi,hmi⟩:∃ m,fk i=m:=⟨_,rfl⟩;obtain⟨mc,hmc⟩:∃ m,fk c=m:=⟨_,rfl⟩;obtain⟨X,hX⟩:∃ X:Bool,X=(decide (d<n)&&bB (fk d) mc):=⟨_,rfl⟩;have HX:=aB hX;clear hX
   go_upto_region 2 with fail
   go_cut [28] (fun s wx=>s=.bool X∧Below wr.heap.size wr wx)
   case first=>
    by_cases c2:d<n
    ·have hgd:decide ((d:Int)<(n:Int))=true:=by simp;omega
     obtain⟨md,hmd⟩:∃ m,fk d=m:=⟨_,rfl⟩;obtain⟨a0,a1,a2,a3⟩:=Hrk.out.cell (i:=d) c2;obtain⟨d0,d1,y0,y1⟩:=Hrk.out.cell (i:=c) c1;rw[hmd]at a0 a1;rw[hmc]at d0 d1;have HX2:Hid (X=bB md mc):=by show _=_;rw[HX.out,hmd];simp[c2]
     have hbl:=aC a0;have hwd:IntKind.i64.wrap (d:Int)=(d:Int):=by rw[IntKind.wrap_i64];omega
     go_region_held3 (fun W'=>W'.cell? ⟨b,d*2,none⟩=some (.int .i64 md.time)∧W'.cell? ⟨b,d*2+1,none⟩=some (.int .i64 md.number)∧W'.cell? ⟨b,c*2,none⟩=some (.int .i64 mc.time)∧W'.cell? ⟨b,c*2+1,none⟩=some (.int .i64 mc.number))
      (first|go_keep|exact⟨aA hb3 a0 hbl,aA hb3 a1 hbl,aA hb3 d0 hbl,aA hb3 d1 hbl⟩)
      (first|(go_at_call 140;refine(kS md mc _).mono ?_;rintro e' w3 ⟨rfl,hb3⟩))
     all_goals
      go_wp2_with fail
      go_meet;exact⟨by rw[HX2.out],(Below.refl _ _).drew.trans hb3⟩
    ·have hgd:decide ((d:Int)<(n:Int))=false:=by simp;omega
     have HX2:Hid (X=false):=by show _=_;rw[HX.out];simp[c2]
     go_quiet (fail)
     go_wp2_with fail
     go_meet;exact⟨by rw[HX2.out],below_drewN (Below.refl _ _) _⟩
   case rest=>
    obtain⟨rfl,hb1⟩:=hcut;have HB1:=aB hb1;clear hb1
    go_upto_if 28 with fail
    go_cut [4] (fun s wx=>wx=wc∧∃ x:Nat,s=.int .i64 x∧x<n∧0<x∧(x-1) / 2=i∧∀ k,0<k→k<n→(k-1) / 2=i→bB (fk k) (fk x)=false)
    case first=>
     rcases hXe:X with _|_
     ·rw[hXe]at HX
      go_wp2_with fail
      go_meet;refine⟨rfl,c,by go_num,c1,by have:=Hc.out;omega,by have:=Hc.out;omega,?_⟩
      intro k hk0 hkn hkp;have hX:=HX.out
      by_cases hkc:k=c
      ·rw[hkc];exact mG _
      ·have hkd:k=d:=by have:=Hc.out;have:=Hd.out;omega
       subst hkd;simp[hkn]at hX;rw[hmc,hX]
     ·rw[hXe]at HX
      go_wp2_with fail
      go_meet;have hX:=HX.out;simp at hX;refine⟨rfl,d,by go_num,hX.1,by have:=Hd.out;omega,by have:=Hc.out;have:=Hd.out;omega,?_⟩
      intro k hk0 hkn hkp
      by_cases hkd:k=d
      ·rw[hkd];exact mG _
      ·have hkc:k=c:=by have:=Hc.out;have:=Hd.out;omega
       rw[hkc,hmc];exact mF hX.2
    case rest=>
     obtain⟨rfl,x,rfl,hxn,hx0,hxp,hbest⟩:=hcut;have Hbest:=aB hbest;have Hxp:=aB hxp;have hix:i<x:=by omega
     clear hbest hxp hce hde;obtain⟨mx,hmx⟩:∃ m,fk x=m:=⟨_,rfl⟩;have Hr3:=aB (Hrk.out.below HB1.out);have Ho3:=aB (Ho.out.trans (Only.new HB1.out));clear HB1;obtain⟨c0,c1',z0,z1⟩:=Hr3.out.cell hin;obtain⟨e0,e1,x0,x1⟩:=Hr3.out.cell (i:=x) hxn;rw[hmi]at c0 c1';rw[hmx]at e0 e1
     go_upto_region 4 with fail
     go_cut [40] (fun s wx=>s=.bool (!bB mx mi)∧Below wc.heap.size wc wx)
     case first=>
      have hbl:=aC c0
      go_region_held3 (fun W'=>W'.cell? ⟨b,x*2,none⟩=some (.int .i64 mx.time)∧W'.cell? ⟨b,x*2+1,none⟩=some (.int .i64 mx.number)∧W'.cell? ⟨b,i*2,none⟩=some (.int .i64 mi.time)∧W'.cell? ⟨b,i*2+1,none⟩=some (.int .i64 mi.number))
       (first|go_keep|exact⟨aA hb5 e0 hbl,aA hb5 e1 hbl,aA hb5 c0 hbl,aA hb5 c1' hbl⟩)
       (first|(go_at_call 140;refine(kS mx mi _).mono ?_;rintro e' w5 ⟨rfl,hb5⟩))
      all_goals
       go_wp2_with fail
       go_meet;exact⟨rfl,(Below.refl _ _).drew.trans hb5⟩
     case rest=>
      obtain⟨rfl,hb5⟩:=hcut;have Hr5:=aB (Hr3.out.below hb5);have Ho5:=aB (Ho3.out.trans (Only.new hb5));clear hb5 c0 c1' z0 z1 e0 e1 x0 x1 Hr3 Ho3;rcases hah:bB mx mi with _|_
      ·go_wp2
       refine bodyPost_ret (results_none rfl _ _ _) rfl ?_;refine⟨rfl,Ho5.out,fk,Hr5.out,HRk.out.done H0i.out ?_,Hmk.out⟩;intro s hs0 hsn hsp;have h1:=Hbest.out s hs0 hsn hsp;rw[hmx]at h1;rw[hmi];exact fJ h1 hah
      ·obtain⟨c0,c1',z0,z1⟩:=Hr5.out.cell hin;obtain⟨e0,e1,x0,x1⟩:=Hr5.out.cell (i:=x) hxn;rw[hmi]at c0 c1';rw[hmx]at e0 e1
       go_wp2
       go_region
       all_goals
        go_wp2
        go_roundg (n-x+1)
        case measure=>omega
        case rel=>
         have hA:bB (fk x) (fk i)=true:=by rw[hmi,hmx,hah]
         have hsw:=Hr5.out.swap hin (j:=x) hxn (by omega)
         rw[hmi,hmx]at hsw;exact⟨x,dX fk i x,by go_num,hxn,by have:=H0i.out;omega,by omega,((Ho5.out.setM rfl _ _).setM rfl _ _).drew,hsw.drew,HRk.out.swap H0i.out Hxp.out hx0 hxn hA Hbest.out,Hmk.out.swap hin hxn⟩
  ·have hgc:decide ((n:Int)≤(c:Int))=true:=by simp;omega
   go_wp2
   refine bodyPost_ret (results_none rfl _ _ _) rfl ?_;refine⟨rfl,Ho.out,fk,Hrk.out,HRk.out.done H0i.out ?_,Hmk.out⟩;intro s hs0 hsn hsp;have:=Hc.out;omega
theorem Tryz.infoM:(Tryz.prog.info? 186).map (fun i=>(i.zero,i.size,i.bytes))=some (some (.agg #[.int .i64 0,.int .i64 0]),2,16):=by kernel_rfl
def cA(f:Nat→Mom)(n:Nat):List Value:=(List.range (n*2)).map fun j=>if j % 2=0 then .int .i64 (f (j / 2)).time else .int .i64 (f (j / 2)).number
theorem bQ(f:Nat→Mom)(n:Nat):(cA f n).length=n*2:=by simp[cA]
theorem gD(f:Nat→Mom)(n i:Nat)(h:i<n):(cA f n)[i*2]?=some (.int .i64 (f i).time)∧(cA f n)[i*2+1]?=some (.int .i64 (f i).number):=by
 refine⟨?_,?_⟩
 ·simp[cA];refine⟨i*2,?_,?_⟩
  ·rw[List.getElem?_range (by omega)]
  ·simp
 ·simp[cA];refine⟨i*2+1,?_,?_⟩
  ·rw[List.getElem?_range (by omega)]
  ·simp[show(i*2+1) % 2=1 by omega,show(i*2+1) / 2=i by omega]
theorem oM(f:Nat→Mom)(n:Nat):∀ u∈cA f n,u.oneCell'=true:=by
 intro u hu;simp[cA]at hu;obtain⟨j,_,rfl⟩:=hu
 split<;>rfl
theorem MomIn.cells{cur:Array Value}{f:Nat→Mom}{n:Nat}(h:MomIn cur f n)(hs:n*2≤cur.size):cur.toList.take (n*2)=cA f n:=by
 apply List.ext_getElem?
 intro j
 by_cases hj:j<n*2
 ·rw[List.getElem?_take,if_pos hj,Array.getElem?_toList];have h1:=gD f n (j / 2) (by omega)
  have h2:=h (j / 2) (by omega)
  have:j % 2=0∨j % 2=1:=by omega
  rcases this with h0|h0
  ·have e:j / 2*2=j:=by omega
   rw[e]at h1 h2;rw[h1.1,h2.1]
  ·have e:j / 2*2+1=j:=by omega
   rw[e]at h1 h2;rw[h1.2,h2.2]
 ·rw[List.getElem?_eq_none (by simp;omega),List.getElem?_eq_none (by rw[bQ];omega)]
theorem MomIn.of{cur:Array Value}{f:Nat→Mom}{n:Nat}(h:cur.toList.take (n*2)=cA f n):MomIn cur f n:=by
 intro i hi;have h1:=gD f n i hi;rw[←h]at h1;rw[List.getElem?_take,if_pos (by omega),List.getElem?_take,if_pos (by omega)]at h1
 simpa using h1
theorem uS(f:Nat→Mom)(n:Nat)(m:Mom):cA (dQ f n m) (n+1)=cA f n++[.int .i64 m.time,.int .i64 m.number]:=by
 apply List.ext_getElem?
 intro j
 by_cases hj:j<n*2
 ·rw[List.getElem?_append_left (by rw[bQ];exact hj)]
  have h1:=gD (dQ f n m) (n+1) (j / 2) (by omega)
  have h2:=gD f n (j / 2) (by omega)
  have hne:j / 2≠n:=by omega
  have:j % 2=0∨j % 2=1:=by omega
  rcases this with h0|h0
  ·have e:j / 2*2=j:=by omega
   rw[e]at h1 h2;rw[h1.1,h2.1];simp[dQ,hne]
  ·have e:j / 2*2+1=j:=by omega
   rw[e]at h1 h2;rw[h1.2,h2.2];simp[dQ,hne]
 ·rw[List.getElem?_append_right (by rw[bQ];omega),bQ]
  have h1:=gD (dQ f n m) (n+1) n (by omega)
  by_cases h0:j=n*2
  ·subst h0;rw[h1.1];simp[dQ]
  ·by_cases h0':j=n*2+1
   ·subst h0';rw[h1.2];simp[dQ,show n*2+1-n*2=1 by omega]
   ·rw[List.getElem?_eq_none (by rw[bQ];omega),List.getElem?_eq_none (by simp;omega)]
def OrdV(base:Nat)(w:World)(v:Value)(n:Nat)(f:Nat→Mom):Prop:=
 (v=.slice none 0 0∧n=0)∨∃ b cap,v=.slice (some ⟨b,0,none⟩) n cap∧base≤b∧n≤cap∧cap≤maxLen∧RowB w b 186 (cap*2) f n
theorem OrdV.owns{base:Nat}{w:World}{v:Value}{n:Nat}{f:Nat→Mom}(h:OrdV base w v n f):w.ownsRow base 186 2 v n (cA f n):=by
 refine⟨bQ f n,?_⟩;rcases h with h|⟨b,cap,rfl,hb,h1,h2,cur,h3,h4,h5⟩
 ·exact .inl h
 ·exact .inr ⟨b,cap,cur,rfl,hb,h3,h1,h2,h4,h5.cells (by rw[h4];exact Nat.mul_le_mul_right _ h1)⟩
theorem OrdV.of{base:Nat}{w:World}{v:Value}{n:Nat}{f:Nat→Mom}(h:w.ownsRow base 186 2 v n (cA f n)):OrdV base w v n f:=by
 obtain⟨_,h|⟨g,cap,cur,rfl,hb,hg,h1,h2,h3,h4⟩⟩:=h
 ·exact .inl h
 ·exact .inr ⟨g,cap,rfl,hb,h1,h2,cur,hg,h3,MomIn.of h4⟩
theorem OrdV.below{base:Nat}{w w':World}{v:Value}{n:Nat}{f:Nat→Mom}(h:OrdV base w v n f)(hb:Below w.heap.size w w'):OrdV base w' v n f:=by
 rcases h with h|⟨b,cap,rfl,h0,h1,h2,h3⟩
 ·exact .inl h
 ·exact .inr ⟨b,cap,rfl,h0,h1,h2,h3.below hb⟩
theorem OrdV.only{base:Nat}{w w':World}{v:Value}{n:Nat}{f:Nat→Mom}{U:Nat→Prop}(h:OrdV base w v n f)(ho:Only U w w')(hU:∀ b,some b=v.ownBlock→¬U b):OrdV base w' v n f:=by
 rcases h with h|⟨b,cap,rfl,h0,h1,h2,h3⟩
 ·exact .inl h
 ·exact .inr ⟨b,cap,rfl,h0,h1,h2,h3.only ho (hU b rfl)⟩
theorem OrdV.lt{base:Nat}{w:World}{v:Value}{n:Nat}{f:Nat→Mom}(h:OrdV base w v n f):∀ b,some b=v.ownBlock→base≤b∧b<w.heap.size:=by
 rcases h with⟨rfl,_⟩|⟨b,cap,rfl,h0,h1,h2,h3⟩
 ·intro b hb;simp[Value.ownBlock]at hb
 ·intro b' hb;simp[Value.ownBlock]at hb;subst hb;exact⟨h0,h3.lt⟩
theorem OrdV.form{base:Nat}{w:World}{v:Value}{n:Nat}{f:Nat→Mom}(h:OrdV base w v n f):∃ sa sc,v=.slice sa n sc:=by
 rcases h with⟨rfl,rfl⟩|⟨b,cap,rfl,_⟩
 ·exact⟨_,_,rfl⟩
 ·exact⟨_,_,rfl⟩
theorem RiseF.last{f:Nat→Mom}{n:Nat}(h:HeapF f n)(m:Mom):RiseF (dQ f n m) (n+1) n:=by
 refine⟨?_,?_⟩
 ·intro j hj hjn hne;simp[dQ,hne,show(j-1) / 2≠n by omega]
  exact h j hj (by omega)
 ·intro j hn hj hjn hp;omega
theorem aEa(base:Nat)(v:Value)(n:Nat)(f:Nat→Mom)(m:Mom)(q:List Ev)(w:World)(hv:OrdV base w v n f)(hh:HeapF f n)(hn:n≤16)(hm:MomsOf (dQ f n m) (n+1) q)(hbase:base≤w.heap.size) :
  Calls Tryz.prog 125 #[v,.agg #[.int .i64 m.time,.int .i64 m.number]] w fun e w'=>∃ v' f',e=.returned v'∧OrdV base w' v' (n+1) f'∧HeapF f' (n+1)∧MomsOf f' (n+1) q ∧
   Only (fun b=>some b=v.ownBlock) w w'∧(v'.ownBlock=v.ownBlock∨∃ g,v'.ownBlock=some g∧w.heap.size≤g):=by
 have Hown:=aB hv.owns;have hlt:=aB hv.lt;obtain⟨sa,sc,rfl⟩:=hv.form;clear hv
 go_enter Tryz.func125,Tryz.ntmps125
 go_wp2_with (at_builtin;refine aD rfl (.tmp 5) (.tmp 7) 154 rfl base 186 (.agg #[.int .i64 0,.int .i64 0]) 2 16 Tryz.underlying154 Tryz.infoM rfl (by omega) _ n (cA f n) rfl ((Hown.out.alloc _).alloc _) _ 1 [.int .i64 m.time,.int .i64 m.number] rfl (.inr (.inl ⟨w.heap.size+1,0,_,rfl,?_⟩)) rfl (by simp[Value.oneCell']) (by omega) (by omega) (by simp;omega) ?_)
 ·intro j u hu;have hj:j<2:=by have:=(List.getElem?_eq_some_iff.1 hu).1;simpa using this
  have:j=0∨j=1:=by omega
  rcases this with rfl|rfl<;>simp at hu<;>subst hu<;>simp[go_sem]
 intro v1 w1 hown1 hgr1 hwh1;have hb0:Below w.heap.size w ((w.alloc (.cells #[.int .i64 m.time,.int .i64 m.number] 186)).alloc (.cells #[.int .i64 m.time,.int .i64 m.number] 186)):=((Below.refl _ _).alloc (Nat.le_refl _) _).alloc (by simp) _
 have hO1:OrdV base w1 v1 (n+1) (dQ f n m):=OrdV.of (by rw[uS];exact hown1.out)
 have ho1:Only (fun b=>some b=(Value.slice sa n sc).ownBlock) w w1:=(Only.new hb0).trans ⟨hgr1.out.os,hgr1.out.tape,hgr1.out.output,hgr1.out.size,fun k hk hn=>hgr1.out.block k hk hn⟩;have hw1:v1.ownBlock=(Value.slice sa n sc).ownBlock∨∃ g,v1.ownBlock=some g∧w.heap.size≤g:=by
  rcases hwh1.out with h|h
  ·exact .inl h
  ·refine .inr ⟨_,h,?_⟩;omega
 obtain⟨_,h0⟩|⟨b1,cap1,rfl,hb1,hc1,hc2,hrow1⟩:=hO1
 ·omega
 have hne:∀ k,some k=(Value.slice (some ⟨b1,0,none⟩) (n+1) cap1).ownBlock↔k=b1:=by intro k;simp[Value.ownBlock]
 clear hown1 hgr1 hwh1 hb0 hlt Hown;have Ho1:=aB ho1;have Hw1:=aB hw1;clear ho1 hw1;have e1:((n:Int)+1-1)=(n:Int):=by omega
 go_wp2_with (go_at_call 132;(have e2:(⟨b1,0,none⟩:Addr)=⟨b1,0,none⟩:=rfl);refine(xS b1 186 (cap1*2) (n+1) cap1 n (dQ f n m) _ q hrow1 (by omega) (by omega) (RiseF.last hh m) hm).mono ?_;rintro e w2 ⟨rfl,ho2,f',hr2,hh2,hm2⟩)
 go_ret;refine⟨_,f',rfl,.inr ⟨b1,cap1,rfl,hb1,hc1,hc2,hr2⟩,hh2,hm2,?_,?_⟩
 ·rcases Hw1.out with h|⟨g,h,hg⟩
  ·refine Ho1.out.trans (ho2.mono ?_);rintro k hk rfl;rw[←h];simp[Value.ownBlock]
  ·simp[Value.ownBlock]at h;subst h;refine⟨ho2.os.trans Ho1.out.os,ho2.tape.trans Ho1.out.tape,ho2.output.trans Ho1.out.output,Nat.le_trans Ho1.out.size ho2.size,?_⟩;intro k hk hn;rw[ho2.block k (Nat.lt_of_lt_of_le hk Ho1.out.size) (by omega)]
   exact Ho1.out.block k hk hn
 ·exact Hw1.out
theorem RowB.less{w:World}{b T S n m:Nat}{f:Nat→Mom}(h:RowB w b T S f n)(hm:m≤n):RowB w b T S f m:=by
 obtain⟨cur,h1,h2,h3⟩:=h;exact⟨cur,h1,h2,fun i hi=>h3 i (by omega)⟩
theorem pS(base b cap n i:Nat)(f:Nat→Mom)(q:List Ev)(w:World)(hb:base≤b)(hc:n+1≤cap)(hcm:cap≤maxLen)(hr:RowB w b 186 (cap*2) f (n+1))(hh:HeapF f (n+1))(hn:n≤16)(hi:i<n+1)(hm:MomsOf (dQ f i (f n)) n q) :
  Calls Tryz.prog 139 #[.slice (some ⟨b,0,none⟩) (n+1) cap,.int .i64 i] w fun e w'=>∃ f',e=.returned (.slice (some ⟨b,0,none⟩) n cap)∧OrdV base w' (.slice (some ⟨b,0,none⟩) n cap) n f'∧HeapF f' n∧MomsOf f' n q∧Only (·=b) w w':=by
 obtain⟨c0,c1,z0,z1⟩:=hr.cell hi;obtain⟨d0,d1,y0,y1⟩:=hr.cell (i:=n) (by omega)
 have hset:=hr.set hi (f n);obtain⟨mn,hmn⟩:∃ m,f n=m:=⟨_,rfl⟩;rw[hmn]at d0 d1 hset hm;have e1:((n:Int)+1-1)=(n:Int):=by omega
 have hcap:(n:Int)≤(cap:Int):=by omega
 have Hset:=aB hset;have Hm:=aB hm;have Hh:=aB hh;have Hcm:=aB hcm;clear hr hset hm hh hcm;have hset2:RowB ((w.setCell ⟨b,i*2,none⟩ (.int .i64 mn.time)).setCell ⟨b,i*2+1,none⟩ (.int .i64 mn.number)) b 186 (cap*2) (dQ f i mn) n:=Hset.out.less (by omega)
 have Hset2:=aB hset2;have Hon:Hid (Only (·=b) w ((w.setCell ⟨b,i*2,none⟩ (.int .i64 mn.time)).setCell ⟨b,i*2+1,none⟩ (.int .i64 mn.number))):=((Only.refl _ _).setCell (S:=(·=b)) rfl _).setCell rfl _
 clear hset2 Hset
 by_cases hin:i<n
 ·have Hs:Hid (SinkF (dQ f i mn) n i i):=by rw[←hmn];exact SinkF.start Hh.out hin
  go_enter Tryz.func139,Tryz.ntmps139
  go_wp2_with (first
   | (go_at_call 142;refine(aDl b 186 (cap*2) n cap i (dQ f i mn) _ q Hset2.out hin (by omega) Hs.out Hm.out).mono ?_;rintro e w1 ⟨rfl,ho1,f1,hr1,hR1,hm1⟩)
   | (go_at_call 132;refine(xS b 186 (cap*2) n cap i f1 _ q hr1 hin (by omega) hR1 hm1).mono ?_;rintro e w2 ⟨rfl,ho2,f2,hr2,hh2,hm2⟩))
  go_ret;exact⟨f2,rfl,.inr ⟨b,cap,rfl,hb,by omega,Hcm.out,hr2⟩,hh2,hm2,(Hon.out.trans ho1).trans ho2⟩
 ·have hie:i=n:=by omega
  subst hie
  go_enter Tryz.func139,Tryz.ntmps139
  go_wp2
  go_ret;refine⟨dQ f i mn,rfl,.inr ⟨b,cap,rfl,hb,by omega,Hcm.out,Hset2.out⟩,?_,Hm.out,Hon.out⟩
  intro j hj hjn;have:=Hh.out j hj (by omega)
  simp[dQ,show j≠i by omega,show(j-1) / 2≠i by omega]
  exact this
def eU(e:Ev):Value:=.agg #[.int .i64 e.number,.int .i64 e.time,.int .i64 e.kind,.int .i64 e.entity]
structure MapQ(es:Array MapEntry)(clock:Nat)(q:List Ev):Prop where
 size:es.size=q.length
 stamped:MapKept.Stamped es clock
 sub:∀ x∈es.toList,∃ e,e∈q∧x.key=.int .i64 e.number∧x.val=eU e
 sup:∀ e∈q,∃ x,x∈es.toList∧x.key=.int .i64 e.number∧x.val=eU e
theorem MapQ.empty(clock:Nat):MapQ #[] clock []:=⟨rfl,MapKept.stamped_empty clock,by simp,by simp⟩
theorem MapQ.keys{es:Array MapEntry}{clock:Nat}{q:List Ev}(h:MapQ es clock q):∀ x∈es.toList,MapKept.IsKey (.int .i64) x.key:=by
 intro x hx;obtain⟨e,_,hk,_⟩:=h.sub x hx;rw[hk];rfl
theorem MapQ.find{es:Array MapEntry}{clock:Nat}{q:List Ev}(h:MapQ es clock q){e:Ev}(he:e∈q)(hd:Distinct q) :
  ∃ j x,Instr.findNow (.int .i64) (.int .i64 e.number) es.toList 0=some (some (j,eU e))∧es.toList[j]?=some x∧x.key=.int .i64 e.number:=by
 rcases MapKept.findNow_spec (d:=.int .i64) (k:=.int .i64 e.number) rfl es.toList 0 h.keys with⟨_,h2⟩|⟨j,x,h1,h2,h3⟩
 ·obtain⟨x,hx,hk,_⟩:=h.sup e he;exact absurd hk (h2 x hx)
 ·obtain⟨e',he',hk',hv'⟩:=h.sub x (List.mem_of_getElem? h2);have:e'=e:=hd.eq he' he (by rw[hk']at h3;simpa using h3)
  subst this;refine⟨j,x,?_,h2,h3⟩;rw[h1,hv'];simp
theorem MapQ.miss{es:Array MapEntry}{clock:Nat}{q:List Ev}(h:MapQ es clock q){n:Int}(hn:∀ e∈q,e.number≠n) :
  Instr.findNow (.int .i64) (.int .i64 n) es.toList 0=some none:=by
 rcases MapKept.findNow_spec (d:=.int .i64) (k:=.int .i64 n) rfl es.toList 0 h.keys with⟨h1,_⟩|⟨j,x,h1,h2,h3⟩
 ·exact h1
 ·obtain⟨e',he',hk',_⟩:=h.sub x (List.mem_of_getElem? h2);exact absurd (by rw[hk']at h3;simpa using h3) (hn e' he')
section
variable {W : World} {mb : Nat} {es : Array MapEntry} {clock : Nat} {q : List Ev}
theorem fK(hb:W.heap[mb]?=some (.map es clock))(h:MapQ es clock q){e:Ev}(he:e∈q)(hd:Distinct q)(c:Bool) :
  (Instr.lookup 152 (.map (some mb)) (.int .i64 e.number) c).run Tryz.prog W=.ok (if c then .tuple #[eU e,.bool true]else eU e) W:=by
 obtain⟨j,x,hf,_,_⟩:=h.find he hd;simp[Instr.lookup,run_underlying Tryz.underlying152,MapKept.run_getObj_map hb,MapKept.run_checkKey Tryz.underlying3 (show MapKept.IsKey (.int .i64) (.int .i64 e.number)from rfl),MapKept.run_findKey Tryz.underlying3 hf,Result.andThen]
theorem lN(hb:W.heap[mb]?=some (.map es clock))(h:MapQ es clock q){n:Int}(hn:∀ e∈q,e.number≠n) :
  (Instr.lookup 152 (.map (some mb)) (.int .i64 n) true).run Tryz.prog W=.ok (.tuple #[.agg #[.int .i64 0,.int .i64 0,.int .i64 0,.int .i64 0],.bool false]) W:=by
 have hf:=h.miss hn;have hz:∀ W:World,(zeroValue 171).run Tryz.prog W=.ok (.agg #[.int .i64 0,.int .i64 0,.int .i64 0,.int .i64 0]) W:=fun W=>by simp[go_sem]
 simp[Instr.lookup,run_underlying Tryz.underlying152,MapKept.run_getObj_map hb,MapKept.run_checkKey Tryz.underlying3 (show MapKept.IsKey (.int .i64) (.int .i64 n)from rfl),MapKept.run_findKey Tryz.underlying3 hf,hz,Result.andThen]
def cW(w:World)(r:Nat)(es:Array MapEntry)(clock:Nat):World:={w with heap:=w.heap.setIfInBounds r (.map es clock)}
theorem iC(W:World)(mb:Nat)(es:Array MapEntry)(clock:Nat):Only (·=mb) W (cW W mb es clock):=
 ⟨rfl,rfl,rfl,by simp[cW],fun k hk hn=>by simp only[cW];rw[Array.getElem?_setIfInBounds_ne (fun e=>hn e.symm)]⟩
theorem lB{W:World}{mb:Nat}(h:mb<W.heap.size)(es:Array MapEntry)(clock:Nat):(cW W mb es clock).heap[mb]?=some (.map es clock):=by simp[cW,h]
theorem iD(W:World)(mb:Nat)(es:Array MapEntry)(clock:Nat):(cW W mb es clock).heap.size=W.heap.size:=by simp[cW]
theorem sY(hb:W.heap[mb]?=some (.map es clock))(h:MapQ es clock q)(e:Ev)(hn:∀ x∈q,x.number≠e.number) :
  (Instr.mapUpdate 152 (.map (some mb)) (.int .i64 e.number) (eU e)).run Tryz.prog W=.ok () (cW W mb (es.push {key:=.int .i64 e.number,val:=eU e,born:=clock}) (clock+1)):=by
 have hf:=h.miss hn;simp[Instr.mapUpdate,run_underlying Tryz.underlying152,MapKept.run_getObj_map hb,MapKept.run_checkKey Tryz.underlying3 (show MapKept.IsKey (.int .i64) (.int .i64 e.number)from rfl),MapKept.run_findKey Tryz.underlying3 hf,MapKept.run_setObj_map _ hb,Result.andThen,cW]
theorem MapQ.put(h:MapQ es clock q){e:Ev}(hn:∀ x∈q,x.number≠e.number){q':List Ev}(hl:q'.length=q.length+1)(hq:∀ x,x∈q'↔x=e∨x∈q):MapQ (es.push {key:=.int .i64 e.number,val:=eU e,born:=clock}) (clock+1) q':=by
 refine⟨by simp[h.size,hl],MapKept.stamped_push h.stamped ?_,?_,?_⟩
 ·intro x hx hk;obtain⟨e',he',hk',_⟩:=h.sub x hx;rw[hk']at hk;exact hn e' he' (by simpa using hk)
 ·intro x hx;simp only[Array.toList_push,List.mem_append,List.mem_singleton]at hx;rcases hx with hx|rfl
  ·obtain⟨e',he',r⟩:=h.sub x hx;exact⟨e',(hq e').2 (.inr he'),r⟩
  ·exact⟨e,(hq e).2 (.inl rfl),rfl,rfl⟩
 ·intro x hx;rcases (hq x).1 hx with rfl|hx
  ·exact⟨{key:=.int .i64 x.number,val:=eU x,born:=clock},by simp,rfl,rfl⟩
  ·obtain⟨y,hy,r⟩:=h.sup x hx;exact⟨y,by simp at hy ⊢;exact .inl hy,r⟩
theorem aAi(hb:W.heap[mb]?=some (.map es clock))(h:MapQ es clock q){e:Ev}(he:e∈q)(hd:Distinct q)(ty:TypeId) :
  ∃ es',(Builtin.delete_ #[152,3] ty #[.map (some mb),.int .i64 e.number]).run Tryz.prog W=.ok (.tuple #[]) (cW W mb es' clock)∧MapQ es' clock (bY e.number q):=by
 obtain⟨j,x,hf,hx,hk⟩:=h.find he hd;refine⟨es.eraseIdxIfInBounds j,?_,?_⟩
 ·simp[Builtin.delete_,run_underlying Tryz.underlying152,MapKept.run_getObj_map hb,MapKept.run_checkKey Tryz.underlying3 (show MapKept.IsKey (.int .i64) (.int .i64 e.number)from rfl),MapKept.run_findKey Tryz.underlying3 hf,MapKept.run_setObj_map _ hb,Result.andThen,cW]
 ·have hjl:j<es.size:=by have:=(List.getElem?_eq_some_iff.1 hx).1;simpa using this
  have hes:(es.eraseIdxIfInBounds j).toList=es.toList.eraseIdx j:=by simp[Array.eraseIdxIfInBounds,hjl]
  have hlen:=jM hd he rfl;have hnd:(es.toList.map (·.key)).Nodup:=h.stamped.2.2
  have hmem:∀ y,y∈es.toList.eraseIdx j↔y∈es.toList∧y.key≠.int .i64 e.number:=by
   intro y;constructor
   ·intro hy;have hy':=(List.eraseIdx_sublist _ _).subset hy;refine⟨hy',fun hc=>?_⟩;obtain⟨i,hij,hi⟩:=List.mem_eraseIdx_iff_getElem?.1 hy;have h1:(es.toList.map (·.key))[i]?=(es.toList.map (·.key))[j]?:=by rw[List.getElem?_map,List.getElem?_map,hi,hx];simp[hc,hk]
    have hil:i<(es.toList.map (·.key)).length:=by have:=(List.getElem?_eq_some_iff.1 hi).1;simpa using this
    exact hij ((List.getElem?_inj hil hnd).1 h1)
   ·rintro⟨hy,hne⟩;obtain⟨i,hi⟩:=List.getElem?_of_mem hy;refine List.mem_eraseIdx_iff_getElem?.2 ⟨i,?_,hi⟩;rintro rfl;rw[hx]at hi;cases hi;exact hne hk
  refine⟨?_,MapKept.stamped_erase h.stamped j,?_,?_⟩
  ·rw[←Array.length_toList,hes,List.length_eraseIdx_of_lt (by simpa using hjl),Array.length_toList,h.size];omega
  ·intro y hy;rw[hes]at hy;obtain⟨hy1,hy2⟩:=(hmem y).1 hy;obtain⟨e',he',r1,r2⟩:=h.sub y hy1;exact⟨e',(iV _ _ _).2 ⟨he',fun hc=>hy2 (by rw[r1,hc])⟩,r1,r2⟩
  ·intro e' he';obtain⟨he1,he2⟩:=(iV _ _ _).1 he';obtain⟨y,hy,r1,r2⟩:=h.sup e' he1;exact⟨y,by rw[hes];exact(hmem y).2 ⟨hy,fun hc=>he2 (by rw[r1]at hc;simpa using hc)⟩,r1,r2⟩
end
def eqM(a b:Mom):Bool:=decide (a.time=b.time)&&decide (a.number=b.number)
theorem aB3(a b:Mom):eqM a b=true↔a=b:=by
 cases a;cases b;simp[eqM]
theorem eqlM(a b c d:Int)(w:World):(binOp .eql 186 (.agg #[.int .i64 a,.int .i64 b]) (.agg #[.int .i64 c,.int .i64 d])).run Tryz.prog w=.ok (.bool (decide (a=c)&&decide (b=d))) w:=by
 have hu:Tryz.prog.underlying 186=some (.struct (Tryz.prog.fieldsOf 186)):=by kernel_rfl
 by_cases h1:a=c<;>by_cases h2:b=d<;>simp[go_sem,h1,h2,Tryz.underlying186]
theorem aBw(b T S n cap:Nat)(f:Nat→Mom)(m:Mom)(w:World)(hr:RowB w b T S f n)(hn:n≤17)(hin:∃ i,i<n∧f i=m) :
  Calls Tryz.prog 141 #[.slice (some ⟨b,0,none⟩) n cap,.agg #[.int .i64 m.time,.int .i64 m.number]] w fun e w'=>∃ i:Nat,i<n∧f i=m∧e=.returned (.int .i64 i)∧Below w.heap.size w w':=by
 have Hin:=aB hin;have Hr:=aB hr;clear hin hr
 go_enter Tryz.func141,Tryz.ntmps141
 go_wp2
 go_loopw [8] (fun i wr=>∃ k:Nat,k≤n∧i=.int .i64 k∧Below (w.heap.size+1) (w.alloc (.cells #[.int .i64 m.time,.int .i64 m.number] 186)) wr∧∀ j,j<k→f j≠m) (fun i _=>n-(intOf i).toNat)
 case atStart=>exact⟨0,by omega,rfl,Below.refl _ _,by intro j hj;omega⟩
 case round=>
  obtain⟨k,hkn,rfl,hbel,hno⟩:=hrel;have Hno:=aB hno;clear hno
  by_cases hlt:k<n
  ·have hb0:=(Below.refl w.heap.size w).alloc (Nat.le_refl _) (.cells #[.int .i64 m.time,.int .i64 m.number] 186);have hbw:Below w.heap.size w wr:=hb0.trans (hbel.mono (by omega))
   have hzr:=hbel.size;rw[World.size_alloc]at hzr;have e0:wr.cell? ⟨w.heap.size,0,none⟩=some (.int .i64 m.time):=aA hbel (by simp[go_sem]) (by omega)
   have e1:wr.cell? ⟨w.heap.size,1,none⟩=some (.int .i64 m.number):=aA hbel (by simp[go_sem]) (by omega)
   obtain⟨mk,hmk⟩:∃ x,f k=x:=⟨_,rfl⟩;obtain⟨c0,c1,_,_⟩:=(Hr.out.below hbw).cell hlt;rw[hmk]at c0 c1;have hq:=eqlM m.time m.number mk.time mk.number;rcases hE:eqM m mk with _|_
   ·have hne:f k≠m:=by rw[hmk];intro e;rw[←e,(aB3 mk mk).2 rfl]at hE;cases hE
    have Hne:=aB hne;clear hne;simp only[eqM]at hE;rw[hE]at hq
    go_wp2
    go_quiet (fail)
    go_wp2
    go_roundw
    case rel=>
     refine⟨k+1,by omega,by go_num,below_drewN hbel _,?_⟩
     intro j hj
     by_cases hjk:j=k
     ·rw[hjk];exact Hne.out
     ·exact Hno.out j (by omega)
    case measure=>simp[intOf];omega
   ·have heq:f k=m:=by rw[hmk];exact((aB3 m mk).1 hE).symm
    have Heq:=aB heq;clear heq;simp only[eqM]at hE;rw[hE]at hq
    go_wp2
    go_quiet (fail)
    go_wp2
    go_ret;exact⟨k,hlt,Heq.out,rfl,below_drewN hbw _⟩
  ·obtain⟨i,hi1,hi2⟩:=Hin.out;exact absurd hi2 (Hno.out i (by omega))
end Go.Proofs.YtndlmgocldckfaaGreat
