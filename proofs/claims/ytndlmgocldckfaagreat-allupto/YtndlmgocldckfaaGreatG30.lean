import Derived.Test.YtndlmgocldckfaaGreatG29
import Derived.Test.YtndlmgocldckfaaGreatG28
import Derived.Test.YtndlmgocldckfaaGreatG18
import Derived.Deep.RegionHeld3
import Derived.Deep.CutRange
import Derived.Deep.DeepCutAuto
import Derived.Test.YtndlmgocldckfaaGreatG26
namespace Go.Proofs.YtndlmgocldckfaaGreat
open Go.RowKit
set_option linter.unusedVariables false
set_option linter.unusedSimpArgs false
set_option maxRecDepth 100000
set_option maxHeartbeats 4000000
theorem bI{n:Int}(h:0≤n∧n≤9223372036854775807):∀ b∈aJ n,0≤b∧b<256:=uD 9 n h.1 (by simp;omega)
theorem tP{n:Int}(h:-1000000000≤n∧n≤1000000000):∀ b∈cJ n,0≤b∧b<256:=by
 unfold cJ;refine bI ?_;unfold jE
 split<;>omega
theorem wF:∀ (q:List Ev) (t:Int),cE q→0≤t→(∀ e∈q,t≤e.time∧e.time≤1000000000000∧0≤e.number∧e.number≤1000000000∧0≤e.kind∧e.kind≤1000∧0≤e.entity∧e.entity≤1000)→∀ b∈evB t q,0≤b∧b<256
 | [],t,_,_,_,b,hb=>by simp[evB]at hb
 | e::q,t,hs,ht,h,b,hb=>by
  have he:=h e (List.mem_cons_self ..);simp only[evB,List.mem_append]at hb;rcases hb with hb|hb|hb|hb|hb
  ·exact bI (by omega) b hb
  ·exact bI (by omega) b hb
  ·exact bI (by omega) b hb
  ·exact bI (by omega) b hb
  ·refine wF q e.time (List.pairwise_cons.1 hs).2 (by omega) (fun x hx=>?_) b hb
   have h1:=h x (List.mem_cons_of_mem _ hx);have h2:=(List.pairwise_cons.1 hs).1 x hx;simp only[cM,Bool.or_eq_true,decide_eq_true_eq,Bool.and_eq_true]at h2;omega
theorem jQ{ents:Int}{nk:Nat}{draws:List Int}{s:KS}(hok:KOk ents nk draws s)(he:1≤ents∧ents≤8)(hk:nk≤8)(hd:draws.length≤1000)(hs:cE s.q):∀ b∈fL ents nk s,0≤b∧b<256:=by
 obtain⟨k1,k2,k3,k4,k5,k6⟩:=hok;intro b hb;simp only[fL,List.mem_append]at hb;rcases hb with hb|hb|hb|hb|hb|hb|hb|hb
 ·exact bI (by omega) b hb
 ·exact bI (by omega) b hb
 ·exact bI (by omega) b hb
 ·exact bI (by omega) b hb
 ·exact bI (by omega) b hb
 ·obtain⟨j,_,hj⟩:=List.mem_flatMap.1 hb;exact tP (k4 j) b hj
 ·exact bI (by omega) b hb
 ·refine wF s.q s.clock hs k2.1 (fun e he'=>?_) b hb;have:=k5 e he';omega
theorem aD7{ents:Int}{nk:Nat}{s:KS}(he:ents≤8)(hq:s.q.length≤16):(fL ents nk s).length≤1100:=by
 have h1:=aG ents;have h2:=aG (nk:Int);have h3:=aG s.clock;have h4:=aG s.next
 have h5:=aG (s.taken:Int);have h6:=mK s (ents.toNat*4);have h7:=aG (s.q.length:Int);have h8:=rH s.clock s.q;simp only[fL,List.length_append];omega
def mL(ents:Int)(nk:Nat)(s:KS):List Int:=[84,77,80,1]++fL ents nk s
def dL(ents:Int)(nk:Nat)(s:KS):List Int:=mL ents nk s++fE (mL ents nk s)
theorem zI{R:Nat→Prop}{base:Nat}(kb qb mb:Nat)(ov:Value)(ents:Int)(ks:List (List Ins))(draws:List Int)(s:KS)(w:World)(h:KerP R base w kb qb mb ov ents ks draws s)(hok:KOk ents ks.length draws s)(hk8:ks.length≤8)(he:1≤ents∧ents≤8)(hd:draws.length≤1000)(hsrt:cE s.q) :
  Calls Tryz.prog 52 #[.pointer (some ⟨kb,0,none⟩)] w fun e w'=>∃ v,e=.returned v∧Below w.heap.size w w'∧BRow w.heap.size w' v (dL ents ks.length s):=by
 have H:=aB h;have hby:=aB (jQ hok he hk8 hd hsrt);have hbl:=aD7 (ents:=ents) (nk:=ks.length) (s:=s) he.2 hok.len;clear h
 go_enter Tryz.func52,Tryz.ntmps52
 go_wp2_with fail
 refine(wQ w _ ?_).mono ?_
 ·decide
 rintro e w1 ⟨wb,lv1,rfl,hb1,hwl,hW1,hlv⟩;have HS1:Hid (SvR w w1 wb lv1 [84,77,80,1]):=⟨hb1,hW1,hwl⟩;clear hb1 hW1 hwl hlv
 go_wp2_with fail
 refine(aD6 kb qb mb ov ents ks draws s w w1 wb lv1 _ H.out hok hk8 he hd hsrt HS1.out (by simp)).mono ?_
 rintro e w2 ⟨rfl,lv2,hS2⟩;have HS2:=aB hS2;clear hS2
 go_wp2_with fail
 refine(aBp w.heap.size wb lv2 (mL ents ks.length s) w2 HS2.out.wr HS2.out.below.size (by simp[mL];omega) ?_).mono ?_
 ·intro c hc;rcases List.mem_append.1 hc with hc|hc
  ·simp at hc;omega
  ·exact hby.out c hc
 rintro e w3 ⟨v,rfl,ho3,hrow3⟩;obtain⟨g,cap,rfl⟩:=hrow3.form;have HB3:Hid (Below w.heap.size w w3):=HS2.out.below.trans (ho3.below HS2.out.below.size (fun k hk hc=>by have:=(HS2.out.wr.row.lt k hc).1;omega))
 have Hrow3:=aB hrow3;clear hrow3 ho3
 go_wp2_with fail
 go_ret;exact⟨_,rfl,HB3.out,by have:=Hrow3.out;simp only[List.length_append]at this;exact this⟩
theorem nX{W0 W' w1:World}{P:Prop}(h2:Below W'.heap.size W' w1)(h1:Below W0.heap.size W0 W'∧P):Below W0.heap.size W0 w1:=h1.1.trans (h2.mono h1.1.size)
theorem jR{W0 W':World}{P:Prop}(h1:Below W0.heap.size W0 W'∧P):Below W0.heap.size W0 W'.drew:=h1.1.drew
theorem gN{W0 W':World}{P:Prop}(h:Below W0.heap.size W0 W'∧P):Below W0.heap.size W0 W':=h.1
theorem aFu:(⟨#[84,77,80]⟩:ByteArray)=aH [84,77,80]:=rfl
theorem dG(a b:List Int)(w:World)(h:a.length+b.length≤1000000000):(Op.stringOp .add (aH a) (aH b)).run Tryz.prog w=.ok (.string (aH (a++b))) w:=by
 have:=run_string_add_sum (P:=Tryz.prog) w (aH a) (aH b) (by rw[bV,bV];omega)
 rw[tQ]at this;exact this
def aDa(ents:Int)(nk:Nat)(s:KS):List Int:=[84,77,80]++aJ 1++aJ ents++aJ nk++aJ s.clock++aJ s.next++aJ s.taken
theorem pM{R:Nat→Prop}(rb:Nat)(ents:Int)(ks:List (List Ins))(draws:List Int)(s:KS)(w:World)(h:RefK R w rb ents ks draws s.taken s.clock s.next (cY ents s) s.q)(hok:KOk ents ks.length draws s)(hk8:ks.length≤8)(he:1≤ents∧ents≤8)(hd:draws.length≤1000)(hsrt:cE s.q) :
  Calls Tryz.prog 53 #[.pointer (some ⟨rb,0,none⟩)] w fun e w'=>e=.returned (.string (aH (dL ents ks.length s)))∧Below w.heap.size w w':=by
 obtain⟨⟨kv,dv,rv,qv,h0,h1,h2,h3,h4,h5,h6,h7,hkk,hdd,hrr,hqq⟩,hroom⟩:=h;obtain⟨ka,kc,rfl⟩:=hkk.form;have Hsrt:=aB hsrt;have Hok:=aB hok;have hc:=hok.clock;have hn:=hok.next
 have ht:=hok.taken;have hql:=hok.len;have hrl:rb<w.heap.size:=aC h0;have Hrr:=aB hrr;have Hqq:=aB hqq;clear hrr hqq hkk hdd hroom hok hsrt h2;obtain⟨p1,e1⟩:∃ p1,p1=[84,77,80]++aJ 1:=⟨_,rfl⟩;obtain⟨p2,e2⟩:∃ p2,p2=p1++aJ ents:=⟨_,rfl⟩;obtain⟨p3,e3⟩:∃ p3,p3=p2++aJ ks.length:=⟨_,rfl⟩;obtain⟨p4,e4⟩:∃ p4,p4=p3++aJ s.clock:=⟨_,rfl⟩;obtain⟨p5,e5⟩:∃ p5,p5=p4++aJ s.next:=⟨_,rfl⟩
 obtain⟨p6,e6⟩:∃ p6,p6=p5++aJ s.taken:=⟨_,rfl⟩;have l1:p1.length≤13:=by rw[e1,List.length_append];have:=aG 1;simp;omega
 have l2:p2.length≤23:=by rw[e2,List.length_append];have:=aG ents;omega
 have l3:p3.length≤33:=by rw[e3,List.length_append];have:=aG ks.length;omega
 have l4:p4.length≤43:=by rw[e4,List.length_append];have:=aG s.clock;omega
 have l5:p5.length≤53:=by rw[e5,List.length_append];have:=aG s.next;omega
 have l6:p6.length≤63:=by rw[e6,List.length_append];have:=aG s.taken;omega
 have a1:∀ W,(Op.stringOp .add ⟨#[84,77,80]⟩ (aH (aJ 1))).run Tryz.prog W=.ok (.string (aH p1)) W:=by intro W;rw[e1,aFu];exact dG _ _ W (by have:=aG 1;simp;omega)
 have a2:∀ W,(Op.stringOp .add (aH p1) (aH (aJ ents))).run Tryz.prog W=.ok (.string (aH p2)) W:=by intro W;rw[e2];exact dG _ _ W (by have:=aG ents;omega)
 have a3:∀ W,(Op.stringOp .add (aH p2) (aH (aJ (ks.length:Int)))).run Tryz.prog W=.ok (.string (aH p3)) W:=by intro W;rw[e3];exact dG _ _ W (by have:=aG ks.length;omega)
 have a4:∀ W,(Op.stringOp .add (aH p3) (aH (aJ s.clock))).run Tryz.prog W=.ok (.string (aH p4)) W:=by intro W;rw[e4];exact dG _ _ W (by have:=aG s.clock;omega)
 have a5:∀ W,(Op.stringOp .add (aH p4) (aH (aJ s.next))).run Tryz.prog W=.ok (.string (aH p5)) W:=by intro W;rw[e5];exact dG _ _ W (by have:=aG s.next;omega)
 have a6:∀ W,(Op.stringOp .add (aH p5) (aH (aJ (s.taken:Int)))).run Tryz.prog W=.ok (.string (aH p6)) W:=by intro W;rw[e6];exact dG _ _ W (by have:=aG s.taken;omega)
 have H6:Hid (p6=aDa ents ks.length s):=by show _=_;rw[e6,e5,e4,e3,e2,e1];rfl
 clear e1 e2 e3 e4 e5 e6;have HM:Hid (∀ W',Below w.heap.size w W'→(Below w.heap.size w W'∧W'.cell? ⟨rb,0,none⟩=some (.int .i64 ents)∧W'.cell? ⟨rb,1,none⟩=some (.slice ka ks.length kc)∧W'.cell? ⟨rb,3,none⟩=some (.int .i64 s.taken)∧W'.cell? ⟨rb,4,none⟩=some (.int .i64 s.clock)∧W'.cell? ⟨rb,5,none⟩=some (.int .i64 s.next))):=
  fun W' hb=>⟨hb,aA hb h0 hrl,aA hb h1 hrl,aA hb h3 hrl,aA hb h4 hrl,aA hb h5 hrl⟩
 go_enter Tryz.func53,Tryz.ntmps53
 go_wp2_with fail
 go_cut [3] (fun s3 wx=>s3=.string (aH p6)∧Hid (Below w.heap.size w wx))
 case first=>
  go_region_held3 (fun W'=>Below w.heap.size w W'∧W'.cell? ⟨rb,0,none⟩=some (.int .i64 ents)∧W'.cell? ⟨rb,1,none⟩=some (.slice ka ks.length kc)∧W'.cell? ⟨rb,3,none⟩=some (.int .i64 s.taken)∧W'.cell? ⟨rb,4,none⟩=some (.int .i64 s.clock)∧W'.cell? ⟨rb,5,none⟩=some (.int .i64 s.next))
   (first|exact HM.out _ (Below.refl _ _).drew|exact HM.out _ (nX (by assumption) (by assumption))|exact HM.out _ (jR (by assumption)))
   (first|(go_at_call 78;refine(dY _ _ (by omega)).mono ?_;rintro e w1 ⟨rfl,hb1⟩))
  have HB1:Hid (Below w.heap.size w w1):=gN (by assumption)
  go_wp2_with fail
  go_meet;exact⟨rfl,HB1.out⟩
 case rest=>
  obtain⟨rfl,hB⟩:=hcut;clear a1 a2 a3 a4 a5 a6 l1 l2 l3 l4 l5 HM;obtain⟨N,hN⟩:∃ N,N=(ents*4).toNat:=⟨_,rfl⟩;have hNl:(cY ents s).length=N:=by rw[dI,hN]
  obtain⟨rg,ro,rc,hrv,hrow⟩:∃ b off cap,rv=.slice (some ⟨b,off,none⟩) N cap∧RowAt w b off (ints (cY ents s)):=by
   obtain⟨_,⟨_,hx⟩|⟨b,off,cap,hx,_,hr⟩⟩:=Hrr.out
   ·rw[hx]at hNl;simp at hNl;omega
   ·rw[hNl]at hx;exact⟨b,off,cap,hx,hr⟩
  subst hrv;have hN32:N≤32:=by omega
  have HNe:Hid (N=ents.toNat*4):=by show _=_;omega
  have HRow:Hid (∀ j,j<N→w.cell? ⟨rg,ro+j,none⟩=some (.int .i64 (s.regs j))):=by
   intro j hj;exact hrow j _ (by rw[ints,List.getElem?_map,xZ ents s j (by omega)];rfl)
  clear hrow hNl hN
  go_wp2_with fail
  go_loopg [3,4] (N+3) (fun g s3 s4 wr=>∃ (i:Nat) (acc:List Int),s3=.string (aH acc)∧s4=.int .i64 i∧N-i+2≤g∧i≤N∧acc.length≤63+10*i∧Hid (acc=aDa ents ks.length s++fT s i∧Below w.heap.size w wr))
  case atStart=>exact⟨0,p6,rfl,rfl,by omega,by omega,by omega,by rw[H6.out];simp[fT],hB.out⟩
  case round=>
   obtain⟨i,acc,rfl,rfl,hg,hi,hal,hI⟩:=hrel;have k6:=aA hI.out.2 h6 hrl
   by_cases hlt:i<N
   ·have d1:decide ((i:Int)<(N:Int))=true:=by simp;omega
    have hii:(i:Int)<(N:Int):=by omega
    have hw:IntKind.i64.wrap ((i:Int)+1)=(i:Int)+1:=by rw[IntKind.wrap_i64];omega
    have cc:=HRow.out i hlt;have kc':=aA hI.out.2 cc (aC cc);have hrg:=Hok.out.regs i;have hsl:=aG (jE (s.regs i));have ha:∀ W,(Op.stringOp .add (aH acc) (aH (cJ (s.regs i)))).run Tryz.prog W=.ok (.string (aH (acc++cJ (s.regs i)))) W:=fun W=>dG _ _ W (by show acc.length+(aJ (jE (s.regs i))).length≤_;omega)
    have HN:Hid (acc++cJ (s.regs i)=aDa ents ks.length s++fT s (i+1)):=by show _=_;rw[hI.out.1,iN,List.append_assoc]
    have hl':(acc++cJ (s.regs i)).length≤63+10*(i+1):=by rw[List.length_append];show acc.length+(aJ (jE (s.regs i))).length≤_;omega
    clear cc hsl
    go_wp2_with (go_at_call 80;refine(qM _ _ hrg).mono ?_;rintro e w2 ⟨rfl,hb2⟩)
    have HB2:Hid (Below w.heap.size w w2):=hI.out.2.trans (hb2.mono hI.out.2.size)
    go_roundg (N-(i+1)+2)
    case measure=>omega
    case rel=>exact⟨i+1,_,rfl,by go_num,Nat.le_refl _,by omega,hl',HN.out,HB2.out⟩
   ·have d1:decide ((i:Int)<(N:Int))=false:=by simp;omega
    have hiN:i=N:=by omega
    have HA:Hid (acc=aDa ents ks.length s++fT s N):=by have:=hI.out.1;rw[hiN]at this;exact this
    clear hiN;obtain⟨qa,qc,rfl⟩:=Hqq.out.form;have HQ:Hid (∀ (j:Nat) (hj:j<s.q.length),∃ b off,qa=some ⟨b,off,none⟩∧w.cell? ⟨b,off+j*4,none⟩=some (.int .i64 s.q[j].time)∧w.cell? ⟨b,off+j*4+1,none⟩=some (.int .i64 s.q[j].number)∧w.cell? ⟨b,off+j*4+2,none⟩=some (.int .i64 s.q[j].kind)∧w.cell? ⟨b,off+j*4+3,none⟩=some (.int .i64 s.q[j].entity)):=by
     intro j hj;obtain⟨_,hx⟩|⟨b,off,cap,hx,_,_,_,hc⟩:=Hqq.out
     ·rw[hx]at hj;simp at hj
     ·simp only[Value.slice.injEq]at hx;have:=hc j (aR s.q[j]) (by simp[hj])
      exact⟨b,off,hx.1,this⟩
    have k7:=aA hI.out.2 h7 hrl;have k4:=aA hI.out.2 h4 hrl;have hnl:=aG (s.q.length:Int);have ha:∀ W,(Op.stringOp .add (aH acc) (aH (aJ (s.q.length:Int)))).run Tryz.prog W=.ok (.string (aH (acc++aJ s.q.length))) W:=fun W=>dG _ _ W (by omega)
    have HAQ:Hid (acc++aJ s.q.length=aDa ents ks.length s++fT s N++aJ s.q.length):=by show _=_;rw[HA.out]
    have hl2:(acc++aJ s.q.length).length≤400:=by rw[List.length_append];omega
    have HBr:Hid (Below w.heap.size w wr):=hI.out.2;rename World=>wq;clear hI HRow hnl
    go_wp2_with (go_at_call 78;refine(dY _ _ (by omega)).mono ?_;rintro e w3 ⟨rfl,hb3⟩;(have j4:=aA hb3 k4 (by have:=HBr.out.size;omega)))
    have HB3:Hid (Below w.heap.size w w3):=HBr.out.trans (hb3.mono HBr.out.size);obtain⟨ac1,hac1⟩:∃ ac1,ac1=acc++aJ s.q.length:=⟨_,rfl⟩;rw[←hac1]at HAQ hl2;rw[←hac1];clear hac1 ha k4 k6 k7 hb3 HA j4
    go_loopg [3,5,6,7] (s.q.length+3) (fun g s3 s5 s6 _ wr=>∃ (i:Nat) (acc:List Int) (t:Int),s3=.string (aH acc)∧s5=.int .i64 t∧s6=.int .i64 i∧s.q.length-i+2≤g∧i≤s.q.length∧acc.length≤400+40*i∧Hid (acc=ac1++evB s.clock (s.q.take i)∧t=gV s.clock (s.q.take i)∧Below w.heap.size w wr))
    case atStart=>exact⟨0,ac1,s.clock,rfl,rfl,rfl,by omega,by omega,by omega,by simp[evB],by simp[gV],HB3.out⟩
    case round=>
     obtain⟨i,acc,t,rfl,rfl,rfl,hg,hi,hal,hI⟩:=hrel;have k7:=aA hI.out.2.2 h7 hrl;have hzr:=hI.out.2.2.size
     by_cases hlt:i<s.q.length
     ·have d1:decide ((i:Int)<(s.q.length:Int))=true:=by simp;omega
      have hii:(i:Int)<(s.q.length:Int):=by omega
      have hw:IntKind.i64.wrap ((i:Int)+1)=(i:Int)+1:=by rw[IntKind.wrap_i64];omega
      obtain⟨qb,qo,rfl,b0,b1,b2,b3⟩:=HQ.out i hlt;have c0:=aA hI.out.2.2 b0 (aC b0);have c1:=aA hI.out.2.2 b1 (aC b1);have c2:=aA hI.out.2.2 b2 (aC b2);have c3:=aA hI.out.2.2 b3 (aC b3);have hev:=Hok.out.evs s.q[i] (List.getElem_mem hlt);have hlt2:=zH Hsrt.out (fun e he=>(Hok.out.evs e he).1) i hlt;rw[←hI.out.2.1]at hlt2;have HN:Hid (∀ a,a=acc++aJ (s.q[i].time-t)++aJ s.q[i].number++aJ s.q[i].kind++aJ s.q[i].entity→a=ac1++evB s.clock (s.q.take (i+1))):=by
       intro a ha;rw[ha,List.take_succ_eq_append_getElem hlt,tN,←hI.out.2.1,hI.out.1];simp
      have HT:Hid (s.q[i].time=gV s.clock (s.q.take (i+1))):=(nW s.clock s.q i hlt).symm;generalize s.q[i]=x at c0 c1 c2 c3 hev hlt2 HN HT;obtain⟨xt,xn,xk,xe⟩:=x;simp only at c0 c1 c2 c3 hev hlt2 HN HT;have HBr:=aB hI.out.2.2;clear b0 b1 b2 b3 hI;obtain⟨p1,e1⟩:∃ p1,p1=acc++aJ (xt-t):=⟨_,rfl⟩;obtain⟨p2,e2⟩:∃ p2,p2=p1++aJ xn:=⟨_,rfl⟩;obtain⟨p3,e3⟩:∃ p3,p3=p2++aJ xk:=⟨_,rfl⟩;obtain⟨p4,e4⟩:∃ p4,p4=p3++aJ xe:=⟨_,rfl⟩;have l1:p1.length≤acc.length+10:=by rw[e1,List.length_append];have:=aG (xt-t);omega
      have l2:p2.length≤acc.length+20:=by rw[e2,List.length_append];have:=aG xn;omega
      have l3:p3.length≤acc.length+30:=by rw[e3,List.length_append];have:=aG xk;omega
      have l4:p4.length≤acc.length+40:=by rw[e4,List.length_append];have:=aG xe;omega
      have a1:∀ W,(Op.stringOp .add (aH acc) (aH (aJ (xt-t)))).run Tryz.prog W=.ok (.string (aH p1)) W:=by intro W;rw[e1];exact dG _ _ W (by have:=aG (xt-t);omega)
      have a2:∀ W,(Op.stringOp .add (aH p1) (aH (aJ xn))).run Tryz.prog W=.ok (.string (aH p2)) W:=by intro W;rw[e2];exact dG _ _ W (by have:=aG xn;omega)
      have a3:∀ W,(Op.stringOp .add (aH p2) (aH (aJ xk))).run Tryz.prog W=.ok (.string (aH p3)) W:=by intro W;rw[e3];exact dG _ _ W (by have:=aG xk;omega)
      have a4:∀ W,(Op.stringOp .add (aH p3) (aH (aJ xe))).run Tryz.prog W=.ok (.string (aH p4)) W:=by intro W;rw[e4];exact dG _ _ W (by have:=aG xe;omega)
      have HP:Hid (p4=ac1++evB s.clock (s.q.take (i+1))):=HN.out p4 (by rw[e4,e3,e2,e1])
      clear e1 e2 e3 e4 HN;have hsub:wrap64 (xt-t)=xt-t:=by simp only[wrap64];omega
      have hsub2:IntKind.i64.wrap (xt-t)=xt-t:=by rw[IntKind.wrap_i64];omega
      obtain⟨W4,hW4⟩:∃ W4,W4=wr.alloc (.cells #[.int .i64 xt,.int .i64 xn,.int .i64 xk,.int .i64 xe] 143):=⟨_,rfl⟩;have hb4:Below wr.heap.size wr W4:=by rw[hW4];exact aE _ _
      have hz4:W4.heap.size=wr.heap.size+1:=by rw[hW4];simp
      have m0:W4.cell? ⟨wr.heap.size,0,none⟩=some (.int .i64 xt):=by rw[hW4];simp[go_sem]
      have m1:W4.cell? ⟨wr.heap.size,1,none⟩=some (.int .i64 xn):=by rw[hW4];simp[go_sem]
      have m2:W4.cell? ⟨wr.heap.size,2,none⟩=some (.int .i64 xk):=by rw[hW4];simp[go_sem]
      have m3:W4.cell? ⟨wr.heap.size,3,none⟩=some (.int .i64 xe):=by rw[hW4];simp[go_sem]
      have HM:Hid (∀ W',Below W4.heap.size W4 W'→(Below W4.heap.size W4 W'∧W'.cell? ⟨wr.heap.size,0,none⟩=some (.int .i64 xt)∧W'.cell? ⟨wr.heap.size,1,none⟩=some (.int .i64 xn)∧W'.cell? ⟨wr.heap.size,2,none⟩=some (.int .i64 xk)∧W'.cell? ⟨wr.heap.size,3,none⟩=some (.int .i64 xe))):=
       fun W' hb=>⟨hb,aA hb m0 (by omega),aA hb m1 (by omega),aA hb m2 (by omega),aA hb m3 (by omega)⟩
      have HW4:=aB hW4;have HB4:Hid (Below w.heap.size w W4):=HBr.out.trans (hb4.mono hzr);clear hW4 hb4
      go_wp2_with fail
      rw[←HW4.out]
      go_region_held3 (fun W'=>Below W4.heap.size W4 W'∧W'.cell? ⟨wr.heap.size,0,none⟩=some (.int .i64 xt)∧W'.cell? ⟨wr.heap.size,1,none⟩=some (.int .i64 xn)∧W'.cell? ⟨wr.heap.size,2,none⟩=some (.int .i64 xk)∧W'.cell? ⟨wr.heap.size,3,none⟩=some (.int .i64 xe))
       (first|exact HM.out _ (Below.refl _ _).drew|exact HM.out _ (nX (by assumption) (by assumption)))
       (first|(go_at_call 78;refine(dY _ _ (by omega)).mono ?_;rintro e w5 ⟨rfl,hb5⟩))
      have hb6:Below W4.heap.size W4 w5:=gN (by assumption)
      have y0:=aA hb6 m0 (by omega)
      have HB6:Hid (Below w.heap.size w w5):=HB4.out.trans (hb6.mono (by omega))
      clear m0 m1 m2 m3 hb6 a1 a2 a3 a4
      go_wp2_with fail
      go_roundg (s.q.length-(i+1)+2)
      case measure=>omega
      case rel=>exact⟨i+1,p4,xt,rfl,rfl,by go_num,Nat.le_refl _,by omega,by omega,HP.out,HT.out,HB6.out⟩
     ·have d1:decide ((i:Int)<(s.q.length:Int))=false:=by simp;omega
      have HA:Hid (acc=mL ents ks.length s):=by
       have:=hI.out.1;rw[List.take_of_length_le (by omega),HAQ.out]at this
       show _=_;rw[this,HNe.out];simp[mL,fL,aDa,aJ,eK]
      have HBr:=aB hI.out.2.2;have hv:∀ c∈acc,0≤c∧c<256:=by
       rw[HA.out];intro c hc;rcases List.mem_append.1 hc with hc|hc
       ·simp at hc;omega
       ·exact jQ Hok.out he hk8 hd Hsrt.out c hc
      have HS:Hid (∀ W,Calls Tryz.prog 81 #[.string (aH acc)] W fun e w'=>e=.returned (.string (aH (fE acc)))∧Below W.heap.size W w'):=fun W=>tR acc W (by omega) hv
      have ha:∀ W,(Op.stringOp .add (aH acc) (aH (fE acc))).run Tryz.prog W=.ok (.string (aH (acc++fE acc))) W:=fun W=>dG _ _ W (by rw[jB];omega)
      clear hI hv
      go_wp2_with (go_at_call 81;refine(HS.out _).mono ?_;rintro e w6 ⟨rfl,hb6⟩)
      go_ret;refine⟨?_,HBr.out.trans (hb6.mono hzr)⟩;rw[dL,←HA.out]
      rfl
def eV(t:Int)(r:Rec):List Int:=aJ (r.e.time-t)++(aJ r.e.number++(aJ r.e.kind++(aJ r.e.entity++(aJ (r.told.length:Int)++r.told.flatMap cJ))))
def eY:Int→List Rec→List Int
 | _,[]=>[]
 | t,r::rs=>eV t r++eY r.e.time rs
theorem pI:∀ (rs:List Rec) (t:Int) (r:Rec),eY t (rs++[r])=eY t rs++eV (iG t rs) r
 | [],t,r=>by simp[eY,iG]
 | x::rs,t,r=>by simp[eY,iG,pI rs x.e.time r]
theorem yU(n:Int):(cJ n).length≤10:=aG _
theorem pJ(l:List Int):(l.flatMap cJ).length≤10*l.length:=by
 induction l with
 | nil=>simp
 | cons x l ih=>have:=yU x;simp at ih ⊢;omega
theorem aAl(t:Int)(r:Rec):(eV t r).length≤50+10*r.told.length:=by
 have h1:=aG (r.e.time-t);have h2:=aG r.e.number;have h3:=aG r.e.kind;have h4:=aG r.e.entity;have h5:=aG (r.told.length:Int);have h6:=pJ r.told;simp only[eV,List.length_append];omega
theorem tD:∀ (rs:List Rec) (t:Int),(∀ r∈rs,r.told.length≤16)→(eY t rs).length≤210*rs.length
 | [],t,_=>by simp[eY]
 | r::rs,t,h=>by
  have h1:=aAl t r;have h2:=h r (List.mem_cons_self ..);have h3:=tD rs r.e.time (fun x hx=>h x (List.mem_cons_of_mem _ hx));simp only[eY,List.length_append,List.length_cons];omega
structure aEd(r:Rec):Prop where
 num:0≤r.e.number∧r.e.number≤1000000000
 time:r.e.time≤1000000000000
 kind:0≤r.e.kind∧r.e.kind≤7
 ent:0≤r.e.entity∧r.e.entity≤7
 len:r.told.length≤16
 vals:∀ n∈r.told,-1000000000≤n∧n≤1000000000
theorem fR{t:Int}{r:Rec}(h:cU t r=true):aEd r∧t≤r.e.time:=by
 simp only[cU,inB,gE,Bool.and_eq_true,decide_eq_true_eq,List.all_eq_true]at h;obtain⟨h1,h2,h3,h4,h5,h6⟩:=h;exact⟨⟨h1,h2.2,h3,h4,h5,h6⟩,h2.1⟩
theorem nT:∀ (rs:List Rec) (t:Int) (i:Nat) (hi:i<rs.length),aS t rs=true→aEd rs[i]∧iG t (rs.take i)≤rs[i].e.time
 | r::rs,t,0,hi,h=>by
  simp only[aS,Bool.and_eq_true]at h
  simpa [iG]using fR h.1
 | r::rs,t,i+1,hi,h=>by
  simp only[aS,Bool.and_eq_true]at h
  simpa [iG]using nT rs r.e.time i (by simpa using hi) h.2
theorem mH{rs:List Rec}{t:Int}(h:aS t rs=true):∀ r∈rs,aEd r:=by
 intro r hr;obtain⟨i,hi,rfl⟩:=List.mem_iff_getElem.1 hr;exact(nT rs t i hi h).1
theorem aBc:∀ (rs:List Rec) (t:Int),aS t rs=true→t≤iG t rs
 | [],t,_=>Int.le_refl _
 | r::rs,t,h=>by
  simp only[aS,Bool.and_eq_true]at h;have h1:=(fR h.1).2;have h2:=aBc rs r.e.time h.2;simp only[iG];omega
theorem oO:∀ (rs:List Rec) (t:Int) (i:Nat),aS t rs=true→aS t (rs.take i)=true:=by
 intro rs t i h;rcases hx:aS t (rs.take i)with _|_
 ·rw[iF rs t i hx]at h;cases h
 ·rfl
structure RecVar(w:World)(V:Nat)(e:Ev)(sv:Value):Prop where
 c0:w.cell? ⟨V,0,none⟩=some (.int .i64 e.number)
 c1:w.cell? ⟨V,1,none⟩=some (.int .i64 e.time)
 c2:w.cell? ⟨V,2,none⟩=some (.int .i64 e.kind)
 c3:w.cell? ⟨V,3,none⟩=some (.int .i64 e.entity)
 c4:w.cell? ⟨V,4,none⟩=some sv
theorem RecVar.stay{a b:World}{wb V:Nat}{lv lv1 sv:Value}{e:Ev}(h:RecVar a V e sv)(k:Stay a wb lv b lv1)(hap:tO a wb lv V):RecVar b V e sv:=
 ⟨k.at hap h.c0,k.at hap h.c1,k.at hap h.c2,k.at hap h.c3,k.at hap h.c4⟩
theorem RecVar.below{a b:World}{V:Nat}{sv:Value}{e:Ev}(h:RecVar a V e sv)(k:Below a.heap.size a b):RecVar b V e sv:=
 ⟨aA k h.c0 (aC h.c0),aA k h.c1 (aC h.c1),aA k h.c2 (aC h.c2),aA k h.c3 (aC h.c3),aA k h.c4 (aC h.c4)⟩
theorem RecVar.new(w:World)(e:Ev)(sv:Value)(T:TypeId):RecVar (w.alloc (.cells #[.int .i64 e.number,.int .i64 e.time,.int .i64 e.kind,.int .i64 e.entity,sv] T)) w.heap.size e sv:=by
 constructor<;>simp[go_sem]
structure WrV(w wr:World)(wb:Nat)(lv:Value)(l:List Int)(V:Nat)(e:Ev)(sv:Value):Prop where
 s:SvR w wr wb lv l
 ap:tO wr wb lv V
 var:RecVar wr V e sv
theorem WrV.num{w wr:World}{wb:Nat}{lv:Value}{l:List Int}{V:Nat}{e:Ev}{sv:Value}(n:Int)(h:WrV w wr wb lv l V e sv)(hl:l.length≤1000000)(hn:0≤n∧n≤9223372036854775807) :
  Calls Tryz.prog 110 #[.pointer (some ⟨wb,0,none⟩),.int .i64 n] wr fun ed w'=>ed=.returned (.tuple #[])∧∃ lv',WrV w w' wb lv' (l++aJ n) V e sv:=
 (qX n h.s hl hn).mono (by rintro e w' ⟨rfl,lv',h1,h2⟩;exact⟨rfl,lv',h1,(h2 _ h.ap).1,h.var.stay h2 h.ap⟩)
theorem WrV.sgn{w wr:World}{wb:Nat}{lv:Value}{l:List Int}{V:Nat}{e:Ev}{sv:Value}(n:Int)(h:WrV w wr wb lv l V e sv)(hl:l.length≤1000000)(hn:-1000000000≤n∧n≤1000000000) :
  Calls Tryz.prog 111 #[.pointer (some ⟨wb,0,none⟩),.int .i64 n] wr fun ed w'=>ed=.returned (.tuple #[])∧∃ lv',WrV w w' wb lv' (l++cJ n) V e sv:=
 (aEu n h.s hl hn).mono (by rintro e w' ⟨rfl,lv',h1,h2⟩;exact⟨rfl,lv',h1,(h2 _ h.ap).1,h.var.stay h2 h.ap⟩)
theorem uU(a:Option Addr)(cap:Nat)(rs:List Rec)(w wr:World)(wb:Nat)(lv:Value)(l:List Int)(h:RecIn w a rs)(hok:aS 0 rs=true)(hn:rs.length≤1000)(hS:SvR w wr wb lv l)(hl:l.length≤100) :
  Calls Tryz.prog 76 #[.pointer (some ⟨wb,0,none⟩),.slice a rs.length cap] wr fun e w'=>e=.returned (.tuple #[])∧∃ lv',SvR w w' wb lv' (l++(aJ rs.length++eY 0 rs)):=by
 have H:=aB h;have HS:=aB hS;have Hok:=aB hok;clear h hS hok
 go_enter Tryz.func76,Tryz.ntmps76
 go_wp2_with fail
 refine(qX (rs.length:Int) HS.out (by omega) (by omega)).mono ?_
 rintro e w2 ⟨rfl,lv2,hS2,_⟩;have HS2:=aB hS2;have n1:=aG (rs.length:Int);clear hS2
 go_wp2_with fail
 go_loopg [4,15] (rs.length+3) (fun g s4 s15 wr=>∃ (i:Nat) (lvi:Value),s15=.int .i64 i∧s4=.int .i64 (iG 0 (rs.take i))∧rs.length-i+2≤g∧i≤rs.length∧Hid (SvR w wr wb lvi ((l++aJ rs.length)++eY 0 (rs.take i))))
 case atStart=>exact⟨0,lv2,rfl,rfl,by omega,by omega,show SvR _ _ _ _ _ by simpa [eY]using HS2.out⟩
 case round=>
  rename World=>wo;obtain⟨i,lvi,rfl,rfl,hg,hi,hI⟩:=hrel
  by_cases hlt:i<rs.length
  ·have d1:decide ((i:Int)<(rs.length:Int))=true:=by simp;omega
   have hii:(i:Int)<(rs.length:Int):=by omega
   have hw:IntKind.i64.wrap ((i:Int)+1)=(i:Int)+1:=by rw[IntKind.wrap_i64];omega
   obtain⟨b,off,sa,sc,rfl,c0,c1,c2,c3,c4,ct⟩:=H.out i rs[i] (List.getElem?_eq_getElem hlt)
   replace c0:=aA hI.out.below c0 (aC c0)
   replace c1:=aA hI.out.below c1 (aC c1)
   replace c2:=aA hI.out.below c2 (aC c2)
   replace c3:=aA hI.out.below c3 (aC c3)
   replace c4:=aA hI.out.below c4 (aC c4)
   obtain⟨hro,hrt⟩:=nT rs 0 i hlt Hok.out;have hge:=aBc _ 0 (oO rs 0 i Hok.out);have hbl:((l++aJ rs.length)++eY 0 (rs.take i)).length≤500000:=by
    have:=tD (rs.take i) 0 (fun r hr=>(mH Hok.out r (List.mem_of_mem_take hr)).len);simp only[List.length_append,List.length_take]at this ⊢;omega
   have HT:Hid (((l++aJ rs.length)++eY 0 (rs.take i))++eV (iG 0 (rs.take i)) rs[i]=(l++aJ rs.length)++eY 0 (rs.take (i+1))):=by
    show _=_;rw[List.take_succ_eq_append_getElem hlt,pI,List.append_assoc]
   have HL:Hid (iG 0 (rs.take (i+1))=rs[i].e.time):=by
    show _=_;rw[List.take_succ_eq_append_getElem hlt,mV]
   have Hct:=aB ct;have HI:=aB hI.out;generalize hbs:(l++aJ rs.length)++eY 0 (rs.take i)=bs at HI HT hbl;generalize rs[i]=r at c0 c1 c2 c3 c4 Hct HT HL hro hrt;obtain⟨⟨rt,rn,rk,re⟩,told⟩:=r;obtain⟨o1,o2,o3,o4,o5,o6⟩:=hro;simp only at c0 c1 c2 c3 c4 Hct HL hrt o1 o2 o3 o4 o5 o6;generalize iG 0 (rs.take i)=t at HT hrt hge ⊢;have hws:IntKind.i64.wrap (rt-t)=rt-t:=by rw[IntKind.wrap_i64];omega
   obtain⟨W1,hW1⟩:∃ W1,W1=wo.alloc (.cells #[.int .i64 rn,.int .i64 rt,.int .i64 rk,.int .i64 re,.slice sa told.length sc] 46):=⟨_,rfl⟩;have hb1:Below wo.heap.size wo W1:=by rw[hW1];exact(Below.refl _ _).alloc (Nat.le_refl _) _
   have hz1:W1.heap.size=wo.heap.size+1:=by rw[hW1];simp
   have HV1:Hid (WrV w W1 wb lvi bs wo.heap.size ⟨rt,rn,rk,re⟩ (.slice sa told.length sc)):=by
    refine⟨HI.out.bel hb1,⟨by omega,?_,?_⟩,?_⟩
    ·have:=aC HI.out.wr.cell;omega
    ·intro hc;have:=(HI.out.wr.row.lt _ hc).2;omega
    ·rw[hW1];exact RecVar.new wo ⟨rt,rn,rk,re⟩ _ _
   clear ct hbs hb1 hI;have n1:=aG (rt-t);have n2:=aG rn;have n3:=aG rk;have n4:=aG re;have n5:=aG (told.length:Int);have n6:=pJ told;have HR:Hid (eV t ⟨⟨rt,rn,rk,re⟩,told⟩=aJ (rt-t)++(aJ rn++(aJ rk++(aJ re++(aJ (told.length:Int)++told.flatMap cJ))))):=by show _=_;rfl
   go_wp2_with fail
   rw[←hW1];clear hW1 c0 c1 c2 c3 c4;generalize wo.heap.size=V at HV1 hz1 ⊢;refine(HV1.out.num (rt-t) (by omega) (by omega)).mono ?_
   rintro e w2 ⟨rfl,lv2,h2⟩;have HV2:=aB h2;have x0:=h2.var.c0;simp only at x0;clear h2
   go_wp2_with fail
   refine(HV2.out.num rn (by simp;omega) (by omega)).mono ?_
   rintro e w3 ⟨rfl,lv3,h3⟩;have HV3:=aB h3;have x2:=h3.var.c2;simp only at x2;clear h3 x0
   go_wp2_with fail
   refine(HV3.out.num rk (by simp;omega) (by omega)).mono ?_
   rintro e w4 ⟨rfl,lv4,h4⟩;have HV4:=aB h4;have x3:=h4.var.c3;simp only at x3;clear h4 x2
   go_wp2_with fail
   refine(HV4.out.num re (by simp;omega) (by omega)).mono ?_
   rintro e w5 ⟨rfl,lv5,h5⟩;have HV5:=aB h5;have x4:=h5.var.c4;clear h5 x3
   go_wp2_with fail
   refine(HV5.out.num (told.length:Int) (by simp;omega) (by omega)).mono ?_
   rintro e w6 ⟨rfl,lv6,h6⟩;have x5:=h6.var.c4;obtain⟨b6,hb6⟩:∃ b6,b6=bs++aJ (rt-t)++aJ rn++aJ rk++aJ re++aJ (told.length:Int):=⟨_,rfl⟩;have HV6:Hid (WrV w w6 wb lv6 b6 V ⟨rt,rn,rk,re⟩ (.slice sa told.length sc)):=by rw[hb6];exact h6
   have hb6l:b6.length≤600000:=by rw[hb6];simp;omega
   have HB6:Hid (bs++eV t ⟨⟨rt,rn,rk,re⟩,told⟩=b6++told.flatMap cJ):=by
    show _=_;rw[HR.out,hb6];simp
   clear h6 x4 hb6 HV1 HV2 HV3 HV4 HV5
   go_wp2_with fail
   clear x5
   go_loopg [45] 20 (fun g s45 wr=>∃ (k:Nat) (lvk:Value),s45=.int .i64 k∧told.length-k+2≤g∧k≤told.length∧Hid (WrV w wr wb lvk (b6++(told.take k).flatMap cJ) V ⟨rt,rn,rk,re⟩ (.slice sa told.length sc)))
   case atStart=>exact⟨0,lv6,rfl,by omega,by omega,show WrV _ _ _ _ _ _ _ _ by simpa using HV6.out⟩
   case round=>
    obtain⟨k,lvk,rfl,hg2,hk,hK⟩:=hrel
    by_cases hkl:k<told.length
    ·have g1:decide ((k:Int)<(told.length:Int))=true:=by simp;omega
     have hkk:(k:Int)<(told.length:Int):=by omega
     have hw2:IntKind.i64.wrap ((k:Int)+1)=(k:Int)+1:=by rw[IntKind.wrap_i64];omega
     obtain⟨g',o',rfl,hgc⟩:=Hct.out k told[k] (List.getElem?_eq_getElem hkl);have gc:=aA hK.out.s.below hgc (aC hgc);have hvk:=o6 told[k] (List.getElem_mem hkl);have HK:Hid (told.take (k+1)=told.take k++[told[k]]):=List.take_succ_eq_append_getElem hkl;have hkn:(b6++(told.take k).flatMap cJ).length≤700000:=by
      have:=pJ (told.take k);simp only[List.length_append,List.length_take]at this ⊢;omega
     generalize told[k]=tv at gc hvk HK;clear hgc
     go_wp2_with fail
     refine(hK.out.sgn tv (by omega) (by omega)).mono ?_
     rintro e w7 ⟨rfl,lv7,h7⟩;have HV7:=aB h7;clear h7
     go_wp2_with fail
     go_roundg (told.length-(k+1)+2)
     case measure=>omega
     case rel=>exact⟨k+1,lv7,by go_num,Nat.le_refl _,by omega,show WrV _ _ _ _ _ _ _ _ by rw[HK.out];simpa using HV7.out⟩
    ·have g1:decide ((k:Int)<(told.length:Int))=false:=by simp;omega
     have hq:told.take k=told:=List.take_of_length_le (by omega)
     have HF:Hid (WrV w wr wb lvk (b6++told.flatMap cJ) V ⟨rt,rn,rk,re⟩ (.slice sa told.length sc)):=by
      have:=hK.out;rw[hq]at this;exact this
     have y1:=HF.out.var.c1;simp only at y1;clear hK
     go_wp2_with fail
     go_roundg (rs.length-(i+1)+2)
     case measure=>omega
     case rel=>exact⟨i+1,lvk,by go_num,by rw[HL.out],Nat.le_refl _,by omega,show SvR _ _ _ _ _ by rw[←HT.out,HB6.out];exact HF.out.s⟩
  ·have d1:decide ((i:Int)<(rs.length:Int))=false:=by simp;omega
   have hq:rs.take i=rs:=List.take_of_length_le (by omega)
   have hv:=hI.out;rw[hq]at hv
   go_wp2_with fail
   go_end0
   exact⟨rfl,lvi,by rw[←List.append_assoc];exact hv⟩
end Go.Proofs.YtndlmgocldckfaaGreat
