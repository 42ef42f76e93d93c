import Derived.Test.YtndlmgocldckfaaGreatG30
import Derived.Test.YtndlmgocldckfaaGreatG26
import Derived.Deep.LoopGhost
import Derived.Test.YtndlmgocldckfaaGreatG28
namespace Go.Proofs.YtndlmgocldckfaaGreat
open Go.RowKit
set_option linter.unusedVariables false
set_option linter.unusedSimpArgs false
set_option maxRecDepth 100000
set_option maxHeartbeats 4000000
def mI(rs:List Rec):List Int:=aJ rs.length++eY 0 rs
def uV(rs:List Rec):List Int:=[84,77,82,1]++mI rs
def lE(rs:List Rec):List Int:=uV rs++fE (uV rs)
theorem tE:∀ (rs:List Rec) (t:Int),0≤t→aS t rs=true→∀ b∈eY t rs,0≤b∧b<256
 | [],t,_,_=>by simp[eY]
 | r::rs,t,ht,h=>by
  simp only[aS,Bool.and_eq_true]at h;obtain⟨⟨o1,o2,o3,o4,o5,o6⟩,o7⟩:=fR h.1;intro b hb;simp only[eY,eV,List.mem_append]at hb;rcases hb with (hb|hb|hb|hb|hb|hb)|hb
  ·exact bI (by omega) b hb
  ·exact bI (by omega) b hb
  ·exact bI (by omega) b hb
  ·exact bI (by omega) b hb
  ·exact bI (by omega) b hb
  ·obtain⟨x,hx,hb⟩:=List.mem_flatMap.1 hb;exact tP (o6 x hx) b hb
  ·exact tE rs r.e.time (by omega) h.2 b hb
theorem kH{rs:List Rec}(h:fX rs=true):rs.length≤1000∧aS 0 rs=true:=by
 simpa [fX]using h
theorem nU{rs:List Rec}(h:fX rs=true):∀ b∈mI rs,0≤b∧b<256:=by
 obtain⟨h1,h2⟩:=kH h;intro b hb;rcases List.mem_append.1 hb with hb|hb
 ·exact bI (by omega) b hb
 ·exact tE rs 0 (by omega) h2 b hb
theorem yV{rs:List Rec}(h:fX rs=true):(mI rs).length≤210010:=by
 obtain⟨h1,h2⟩:=kH h;have:=tD rs 0 (fun r hr=>(mH h2 r hr).len);have:=aG (rs.length:Int);simp only[mI,List.length_append];omega
theorem aEe(rs:List Rec):(lE rs).length=(mI rs).length+8:=by
 simp only[lE,uV,List.length_append,jB,List.length_cons,List.length_nil];omega
theorem aCr(a:Option Addr)(cap:Nat)(rs:List Rec)(w:World)(h:RecIn w a rs)(hl:rs.length≤1000000000000000)(hno:fX rs=false) :
  Calls Tryz.prog 38 #[.slice a rs.length cap] w fun e w'=>e=.returned (.tuple #[.slice none 0 0,.int .i64 1])∧Below w.heap.size w w':=by
 go_enter Tryz.func38,Tryz.ntmps38
 go_wp2_with fail
 refine(qH a cap rs w h hl).mono ?_;rintro e w1 ⟨rfl,hb1⟩;rw[hno];have HB1:=aB hb1;clear hb1 h
 go_wp2_with fail
 go_ret2;exact⟨rfl,HB1.out⟩
theorem aAm(a:Option Addr)(cap:Nat)(rs:List Rec)(w:World)(h:RecIn w a rs)(hyes:fX rs=true) :
  Calls Tryz.prog 38 #[.slice a rs.length cap] w fun e w'=>∃ v,e=.returned (.tuple #[v,.int .i64 0])∧Below w.heap.size w w'∧BRow w.heap.size w' v (lE rs):=by
 have H:=aB h;obtain⟨h1,h2⟩:=kH hyes;have Hby:=aB (nU hyes);have hbl:=yV hyes;have Hyes:=aB hyes;clear h hyes
 go_enter Tryz.func38,Tryz.ntmps38
 go_wp2_with fail
 refine(qH a cap rs w H.out (by omega)).mono ?_
 rintro e w0 ⟨rfl,hb0⟩;rw[Hyes.out];have HB0:=aB hb0;have hz0:=hb0.size;clear hb0
 go_wp2_with fail
 refine(wQ w0 _ ?_).mono ?_
 ·decide
 rintro e w1 ⟨wb,lv1,rfl,hb1,hwl,hW1,hlv⟩;have HS1:Hid (SvR w0 w1 wb lv1 [84,77,82,1]):=⟨hb1,hW1,hwl⟩;clear hb1 hW1 hwl hlv
 go_wp2_with fail
 refine(uU a cap rs w0 w1 wb lv1 _ (H.out.below HB0.out) h2 h1 HS1.out (by simp)).mono ?_
 rintro e w2 ⟨rfl,lv2,hS2⟩;have HS2:=aB hS2;clear hS2
 go_wp2_with fail
 refine(aBp w0.heap.size wb lv2 (uV rs) w2 HS2.out.wr HS2.out.below.size (by simp only[uV,List.length_append,List.length_cons,List.length_nil];omega) ?_).mono ?_
 ·intro c hc;rcases List.mem_append.1 hc with hc|hc
  ·simp at hc;omega
  ·exact Hby.out c hc
 rintro e w3 ⟨v,rfl,ho3,hrow3⟩;obtain⟨g,cap',rfl⟩:=hrow3.form;have HB3:Hid (Below w.heap.size w w3):=HB0.out.trans ((HS2.out.below.trans (ho3.below HS2.out.below.size (fun k hk hc=>by have:=(HS2.out.wr.row.lt k hc).1;omega))).mono hz0)
 have Hrow3:=aB (hrow3.mono hz0);clear hrow3 ho3
 go_wp2_with fail
 go_ret2;exact⟨_,rfl,HB3.out,by have:=Hrow3.out;simp only[List.length_append]at this;exact this⟩
theorem aFz:(⟨#[84,77,82]⟩:ByteArray)=aH [84,77,82]:=rfl
def nY(rs:List Rec):List Int:=if fX rs then lE rs else []
def nZ(rs:List Rec):Int:=if fX rs then 0 else 1
def aF3(rs:List Rec):List Int:=[84,77,82]++aJ 1++aJ rs.length
theorem aG0(rs:List Rec):aF3 rs++eY 0 rs=uV rs:=by
 simp[aF3,uV,mI,show aJ 1=[1]from rfl]
theorem mO(a:Option Addr)(cap:Nat)(rs:List Rec)(w:World)(h:RecIn w a rs) :
  Calls Tryz.prog 39 #[.slice a rs.length cap] w fun e w'=>e=.returned (.tuple #[.string (aH (nY rs)),.int .i64 (nZ rs)])∧Below w.heap.size w w':=by
 by_cases hl:rs.length≤1000
 rotate_left
 ·have ha:fX rs=false:=by simp[fX,hl]
  have d1:decide ((1000:Int)<(rs.length:Int))=true:=by simp;omega
  have d2:decide (1000<rs.length)=true:=by simp;omega
  have e1:nY rs=[]:=by simp[nY,ha]
  have e2:nZ rs=1:=by simp[nZ,ha]
  rw[e1,e2]
  go_enter Tryz.func39,Tryz.ntmps39
  go_wp2_with fail
  go_ret2;exact⟨rfl,Below.refl _ _⟩
 ·have d1:decide ((1000:Int)<(rs.length:Int))=false:=by simp;omega
  have d2:decide (1000<rs.length)=false:=by simp;omega
  have H:=aB h;have Hl:=aB hl;obtain⟨p1,e1⟩:∃ p1,p1=[84,77,82]++aJ 1:=⟨_,rfl⟩;obtain⟨p2,e2⟩:∃ p2,p2=p1++aJ rs.length:=⟨_,rfl⟩;have l1:p1.length≤13:=by rw[e1,List.length_append];have:=aG 1;simp;omega
  have l2:p2.length≤23:=by rw[e2,List.length_append];have:=aG rs.length;omega
  have a1:∀ W,(Op.stringOp .add ⟨#[84,77,82]⟩ (aH (aJ 1))).run Tryz.prog W=.ok (.string (aH p1)) W:=by intro W;rw[e1,aFz];exact dG _ _ W (by have:=aG 1;simp;omega)
  have a2:∀ W,(Op.stringOp .add (aH p1) (aH (aJ (rs.length:Int)))).run Tryz.prog W=.ok (.string (aH p2)) W:=by intro W;rw[e2];exact dG _ _ W (by have:=aG rs.length;omega)
  have HP:Hid (p2=aF3 rs):=by show _=_;rw[e2,e1];rfl
  clear h e1 e2
  go_enter Tryz.func39,Tryz.ntmps39
  go_wp2_with fail
  refine(dY 1 w (by omega)).mono ?_
  rintro e w1 ⟨rfl,hb1⟩
  go_wp2_with fail
  refine(dY rs.length w1 (by omega)).mono ?_
  rintro e w2 ⟨rfl,hb2⟩;have HB2:Hid (Below w.heap.size w w2):=hb1.trans (hb2.mono hb1.size);clear hb1 hb2
  go_wp2_with fail
  go_loopg [4,5,6,7,8,9] (rs.length+3) (fun g s4 s5 s6 s7 s8 s9 wr=>∃ (i:Nat) (acc:List Int) (t:Int),s4=.string (aH acc)∧s5=.int .i64 t∧s6=.int .i64 i∧rs.length-i+2≤g∧i≤rs.length∧acc.length≤23+210*i∧(0≤t∧t≤1000000000000)∧Hid (t=iG 0 (rs.take i)∧acc=aF3 rs++eY 0 (rs.take i)∧aS 0 (rs.take i)=true∧Below w.heap.size w wr))
  case atStart=>exact⟨0,p2,0,rfl,rfl,rfl,by omega,by omega,by omega,by omega,by simp[iG],by rw[HP.out];simp[eY],by simp[aS],HB2.out⟩
  case round=>
   obtain⟨i,acc,t,rfl,rfl,rfl,hg,hi,hal,ht,hI⟩:=hrel
   by_cases hlt:i<rs.length
   ·have hii:(i:Int)<(rs.length:Int):=by omega
    have dl:decide ((i:Int)<(rs.length:Int))=true:=by simp;omega
    have hw:IntKind.i64.wrap ((i:Int)+1)=(i:Int)+1:=by rw[IntKind.wrap_i64];omega
    obtain⟨g1,o1,sa,sc,rfl,c0,c1,c2,c3,c4,ct⟩:=(H.out.below (hI.out.2.2.2.mono (Nat.le_refl _))) i rs[i] (List.getElem?_eq_getElem hlt);have htk:rs.take (i+1)=rs.take i++[rs[i]]:=List.take_succ_eq_append_getElem hlt;have HOk:Hid (aS 0 (rs.take (i+1))=cU t rs[i]):=by show _=_;rw[htk,lD,hI.out.2.2.1,←hI.out.1];simp
    have HT:Hid (iG 0 (rs.take (i+1))=rs[i].e.time):=by show _=_;rw[htk,mV]
    have HBB:Hid (eY 0 (rs.take (i+1))=eY 0 (rs.take i)++eV t rs[i]):=by show _=_;rw[htk,pI,←hI.out.1]
    clear htk;generalize rs[i]=x at c0 c1 c2 c3 c4 ct HOk HT HBB;obtain⟨⟨xt,xn,xk,xe⟩,xl⟩:=x;simp only at c0 c1 c2 c3 c4 ct HT;obtain⟨W1,hW1⟩:∃ W1,W1=wr.alloc (.cells #[.int .i64 xn,.int .i64 xt,.int .i64 xk,.int .i64 xe,.slice sa xl.length sc] 46):=⟨_,rfl⟩;have hbA:Below wr.heap.size wr W1:=by rw[hW1];exact(Below.refl _ _).alloc (Nat.le_refl _) _
    have hzA:W1.heap.size=wr.heap.size+1:=by rw[hW1];simp
    have y0:W1.cell? ⟨wr.heap.size,0,none⟩=some (.int .i64 xn):=by rw[hW1];simp[go_sem]
    have y1:W1.cell? ⟨wr.heap.size,1,none⟩=some (.int .i64 xt):=by rw[hW1];simp[go_sem]
    have y2:W1.cell? ⟨wr.heap.size,2,none⟩=some (.int .i64 xk):=by rw[hW1];simp[go_sem]
    have y3:W1.cell? ⟨wr.heap.size,3,none⟩=some (.int .i64 xe):=by rw[hW1];simp[go_sem]
    have y4:W1.cell? ⟨wr.heap.size,4,none⟩=some (.slice sa xl.length sc):=by rw[hW1];simp[go_sem]
    have HW1:=aB hW1;have HBA:Hid (Below w.heap.size w W1):=hI.out.2.2.2.trans (hbA.mono hI.out.2.2.2.size);have HCt:=aB (ct.below hbA);have HR:=aB (aAz ⟨⟨xt,xn,xk,xe⟩,xl⟩ sa sc t W1 HCt.out);clear hW1 ct hbA
    go_wp2_with fail
    rw[←HW1.out];clear c0 c1 c2 c3 c4;refine HR.out.mono ?_;rintro e w3 ⟨rfl,hb3⟩;have hz3:=hb3.size;have z0:=aA hb3 y0 (by omega)
    have z1:=aA hb3 y1 (by omega)
    have z2:=aA hb3 y2 (by omega)
    have z3:=aA hb3 y3 (by omega)
    have z4:=aA hb3 y4 (by omega)
    have HB3:Hid (Below w.heap.size w w3):=HBA.out.trans (hb3.mono HBA.out.size);have HCt3:=aB (HCt.out.below hb3);clear hb3 y0 y1 y2 y3 y4 HR HCt HBA HW1;rcases hq:cU t ⟨⟨xt,xn,xk,xe⟩,xl⟩with _|_
    ·have ha:fX rs=false:=by
      have:=iF rs 0 (i+1) (by rw[HOk.out,hq])
      simp[fX,this]
     have e1:nY rs=[]:=by simp[nY,ha]
     have e2:nZ rs=1:=by simp[nZ,ha]
     have E1:=aB e1;have E2:=aB e2;clear e1 e2
     go_wp2_with fail
     go_ret2;exact⟨by rw[E1.out,E2.out];rfl,HB3.out⟩
    ·have hq2:=hq;simp only[cU,gE,inB,Bool.and_eq_true,decide_eq_true_eq,List.all_eq_true]at hq2;obtain⟨⟨n1,n2⟩,⟨t1,t2⟩,⟨k1,k2⟩,⟨v1,v2⟩,hl16,hval⟩:=hq2;have Hval:=aB hval;have hsub:IntKind.i64.wrap (xt-t)=xt-t:=by rw[IntKind.wrap_i64];omega
     obtain⟨q1,e1⟩:∃ q1,q1=acc++aJ (xt-t):=⟨_,rfl⟩;obtain⟨q2,e2⟩:∃ q2,q2=q1++aJ xn:=⟨_,rfl⟩;obtain⟨q3,e3⟩:∃ q3,q3=q2++aJ xk:=⟨_,rfl⟩;obtain⟨q4,e4⟩:∃ q4,q4=q3++aJ xe:=⟨_,rfl⟩;obtain⟨q5,e5⟩:∃ q5,q5=q4++aJ xl.length:=⟨_,rfl⟩;have hli:i≤1000:=by have:=Hl.out;omega
     have m1:q1.length≤33+210*i:=by rw[e1,List.length_append];have:=aG (xt-t);omega
     have m2:q2.length≤43+210*i:=by rw[e2,List.length_append];have:=aG xn;omega
     have m3:q3.length≤53+210*i:=by rw[e3,List.length_append];have:=aG xk;omega
     have m4:q4.length≤63+210*i:=by rw[e4,List.length_append];have:=aG xe;omega
     have m5:q5.length≤73+210*i:=by rw[e5,List.length_append];have:=aG xl.length;omega
     have b1:∀ W,(Op.stringOp .add (aH acc) (aH (aJ (xt-t)))).run Tryz.prog W=.ok (.string (aH q1)) W:=by intro W;rw[e1];exact dG _ _ W (by have:=aG (xt-t);omega)
     have b2:∀ W,(Op.stringOp .add (aH q1) (aH (aJ xn))).run Tryz.prog W=.ok (.string (aH q2)) W:=by intro W;rw[e2];exact dG _ _ W (by have:=aG xn;omega)
     have b3:∀ W,(Op.stringOp .add (aH q2) (aH (aJ xk))).run Tryz.prog W=.ok (.string (aH q3)) W:=by intro W;rw[e3];exact dG _ _ W (by have:=aG xk;omega)
     have b4:∀ W,(Op.stringOp .add (aH q3) (aH (aJ xe))).run Tryz.prog W=.ok (.string (aH q4)) W:=by intro W;rw[e4];exact dG _ _ W (by have:=aG xe;omega)
     have b5:∀ W,(Op.stringOp .add (aH q4) (aH (aJ (xl.length:Int)))).run Tryz.prog W=.ok (.string (aH q5)) W:=by intro W;rw[e5];exact dG _ _ W (by have:=aG xl.length;omega)
     have HQ:Hid (q5++xl.flatMap cJ=acc++eV t ⟨⟨xt,xn,xk,xe⟩,xl⟩):=by show _=_;rw[e5,e4,e3,e2,e1];simp[eV]
     have hrb:wr.heap.size<w3.heap.size:=by omega
     have HM:Hid (∀ W',Below w3.heap.size w3 W'→(Below w3.heap.size w3 W'∧W'.cell? ⟨wr.heap.size,0,none⟩=some (.int .i64 xn)∧W'.cell? ⟨wr.heap.size,1,none⟩=some (.int .i64 xt)∧W'.cell? ⟨wr.heap.size,2,none⟩=some (.int .i64 xk)∧W'.cell? ⟨wr.heap.size,3,none⟩=some (.int .i64 xe)∧W'.cell? ⟨wr.heap.size,4,none⟩=some (.slice sa xl.length sc))):=
      fun W' hb=>⟨hb,aA hb z0 hrb,aA hb z1 hrb,aA hb z2 hrb,aA hb z3 hrb,aA hb z4 hrb⟩
     clear e1 e2 e3 e4 e5 hval
     go_wp2_with fail
     go_cut [4] (fun s4 wx=>s4=.string (aH q5)∧Hid (Below w3.heap.size w3 wx))
     case first=>
      go_region_held3 (fun W'=>Below w3.heap.size w3 W'∧W'.cell? ⟨wr.heap.size,0,none⟩=some (.int .i64 xn)∧W'.cell? ⟨wr.heap.size,1,none⟩=some (.int .i64 xt)∧W'.cell? ⟨wr.heap.size,2,none⟩=some (.int .i64 xk)∧W'.cell? ⟨wr.heap.size,3,none⟩=some (.int .i64 xe)∧W'.cell? ⟨wr.heap.size,4,none⟩=some (.slice sa xl.length sc))
       (first|exact HM.out _ (Below.refl _ _).drew|exact HM.out _ (nX (by assumption) (by assumption))|exact HM.out _ (jR (by assumption)))
       (first|(go_at_call 78;refine(dY _ _ (by omega)).mono ?_;rintro e w4 ⟨rfl,hb4⟩))
      have HB4:Hid (Below w3.heap.size w3 w4):=gN (by assumption)
      go_wp2_with fail
      go_meet;exact⟨rfl,HB4.out⟩
     case rest=>
      obtain⟨rfl,hB⟩:=hcut;clear b1 b2 b3 b4 b5 m1 m2 m3 m4 HM hsub
      go_wp2_with fail
      go_loopg [4,9] (xl.length+3) (fun g s4 s9 wy=>∃ (j:Nat) (ac:List Int),s4=.string (aH ac)∧s9=.int .i64 j∧xl.length-j+2≤g∧j≤xl.length∧ac.length≤73+210*i+10*j∧Hid (ac=q5++(xl.take j).flatMap cJ∧Below w3.heap.size w3 wy))
      case atStart=>exact⟨0,q5,rfl,rfl,by omega,by omega,by omega,by simp,hB.out⟩
      case round=>
       obtain⟨j,ac,rfl,rfl,hgj,hj,hacl,hJ⟩:=hrel;have k4:=aA hJ.out.2 z4 hrb;have k1:=aA hJ.out.2 z1 hrb
       by_cases hjl:j<xl.length
       ·have dj:decide ((j:Int)<(xl.length:Int))=true:=by simp;omega
        have hjj:(j:Int)<(xl.length:Int):=by omega
        have hwj:IntKind.i64.wrap ((j:Int)+1)=(j:Int)+1:=by rw[IntKind.wrap_i64];omega
        obtain⟨tg,to_,rfl,tc⟩:=HCt3.out j xl[j] (List.getElem?_eq_getElem hjl);have tc':=aA hJ.out.2 tc (aC tc);have hv:=Hval.out xl[j] (List.getElem_mem hjl);have HN:Hid (ac++cJ xl[j]=q5++(xl.take (j+1)).flatMap cJ):=by show _=_;rw[hJ.out.1,List.take_succ_eq_append_getElem hjl,List.flatMap_append,List.append_assoc];simp only[List.flatMap_cons,List.flatMap_nil,List.append_nil]
        have hsl:=yU xl[j];generalize xl[j]=y at tc tc' hv HN hsl;have ha:∀ W,(Op.stringOp .add (aH ac) (aH (cJ y))).run Tryz.prog W=.ok (.string (aH (ac++cJ y))) W:=fun W=>dG _ _ W (by omega)
        have hl':(ac++cJ y).length≤73+210*i+10*(j+1):=by rw[List.length_append];omega
        clear tc hsl
        go_wp2_with (go_at_call 80;refine(qM _ _ hv).mono ?_;rintro e w5 ⟨rfl,hb5⟩)
        have HB5:Hid (Below w3.heap.size w3 w5):=hJ.out.2.trans (hb5.mono hJ.out.2.size)
        go_roundg (xl.length-(j+1)+2)
        case measure=>omega
        case rel=>exact⟨j+1,_,rfl,by go_num,Nat.le_refl _,by omega,hl',HN.out,HB5.out⟩
       ·have dj:decide ((j:Int)<(xl.length:Int))=false:=by simp;omega
        have hjt:xl.take j=xl:=List.take_of_length_le (by omega)
        have HAc:Hid (ac=aF3 rs++eY 0 (rs.take (i+1))):=by
         show _=_;rw[hJ.out.1,hjt,HQ.out,HBB.out,hI.out.2.1];simp
        have HBy:Hid (Below w.heap.size w wr):=HB3.out.trans (hJ.out.2.mono HB3.out.size);have hjl':ac.length≤23+210*(i+1):=by omega
        clear hjt
        go_wp2_with fail
        go_roundg (rs.length-(i+1)+2)
        case measure=>omega
        case rel=>exact⟨i+1,ac,xt,rfl,rfl,by go_num,Nat.le_refl _,by omega,hjl',by omega,HT.out.symm,HAc.out,by rw[HOk.out];exact hq,HBy.out⟩
   ·have dl:decide ((i:Int)<(rs.length:Int))=false:=by simp;omega
    have htk:rs.take i=rs:=List.take_of_length_le (by omega)
    have hx:=hI.out;rw[htk]at hx;have ha:fX rs=true:=by simp[fX,Hl.out,hx.2.2.1]
    have HE:Hid (acc=uV rs):=by show _=_;rw[hx.2.1,aG0]
    have hby:∀ c∈acc,0≤c∧c<256:=by
     rw[HE.out];intro c hc;rcases List.mem_append.1 hc with hc|hc
     ·simp at hc;omega
     ·exact nU ha c hc
    have hli:i≤1000:=by have:=Hl.out;omega
    have HS:=aB (tR acc wr (by omega) hby)
    have e1:nY rs=acc++fE acc:=by rw[HE.out];simp[nY,ha,lE]
    have e2:nZ rs=0:=by simp[nZ,ha]
    have a3:∀ W,(Op.stringOp .add (aH acc) (aH (fE acc))).run Tryz.prog W=.ok (.string (aH (acc++fE acc))) W:=fun W=>dG _ _ W (by rw[jB];omega)
    have E1:=aB e1;have E2:=aB e2;clear hby hx htk e1 e2
    go_wp2_with fail
    refine HS.out.mono ?_;rintro e w3 ⟨rfl,hb3⟩;have HB3:Hid (Below w.heap.size w w3):=hI.out.2.2.2.trans (hb3.mono hI.out.2.2.2.size);clear hb3
    go_wp2_with fail
    go_ret2;exact⟨by rw[E1.out,E2.out];first|done|rfl,HB3.out⟩
def iB(later an:Int):Int:=if later=0 then an+1 else 1
def gY(ents:Int)(nk:Nat)(next t an:Int)(l:List Int)(flt:Bool):Ev×List Int×Bool:=
 let a:=aL 0 (1000000000000-t) l flt
 let b:=aL (iB a.1 an) (next-1) a.2.1 a.2.2
 let c:=aL 0 (nk-1) b.2.1 b.2.2
 let d:=aL 0 (ents-1) c.2.1 c.2.2
 (⟨t+a.1,b.1,c.1,d.1⟩,d.2)
theorem aFo{R:Nat→Prop}{base:Nat}(kb qb mb:Nat)(ov:Value)(ents:Int)(ks:List (List Ins))(draws:List Int)(s:KS)(rb g:Nat)(l:List Int)(flt:Bool)(t an k0 e0:Int)(w:World)(h:KerP R base w kb qb mb ov ents ks draws s)(he:1≤ents∧ents≤8)(hk:ks.length≤8)(hr:RdP w rb g l flt)(hne:rb≠kb)(ht:0≤t∧t≤1000000000000)(ha:0≤an∧an≤1000000000)(hnx:0≤s.next∧s.next≤1000000000) :
  Calls Tryz.prog 122 #[.pointer (some ⟨kb,0,none⟩),.pointer (some ⟨rb,0,none⟩),.agg #[.int .i64 an,.int .i64 t,.int .i64 k0,.int .i64 e0]] w fun e w'=>e=.returned (eU (gY ents ks.length s.next t an l flt).1)∧Only (·=rb) w w'∧RdP w' rb g (gY ents ks.length s.next t an l flt).2.1 (gY ents ks.length s.next t an l flt).2.2:=by
 obtain⟨kv,hkv,hkin⟩:=h.kinds;obtain⟨ka,kc,rfl⟩:=hkin.form;have c0:=h.c0;have c5:=h.c5;have hkl:=h.klt;have hrl:=hr.lt;have HR:=aB hr;clear h hr hkin;have hw1:IntKind.i64.wrap (1000000000000-t)=1000000000000-t:=by rw[IntKind.wrap_i64];omega
 have hw2:IntKind.i64.wrap (an+1)=an+1:=by rw[IntKind.wrap_i64];omega
 have hw3:IntKind.i64.wrap (s.next-1)=s.next-1:=by rw[IntKind.wrap_i64];omega
 have hw4:IntKind.i64.wrap ((ks.length:Int)-1)=(ks.length:Int)-1:=by rw[IntKind.wrap_i64];omega
 have hw5:IntKind.i64.wrap (ents-1)=ents-1:=by rw[IntKind.wrap_i64];omega
 rcases ea:aL 0 (1000000000000-t) l flt with⟨v1,l1,f1⟩;rcases eb:aL (iB v1 an) (s.next-1) l1 f1 with⟨v2,l2,f2⟩
 rcases ec:aL 0 ((ks.length:Int)-1) l2 f2 with⟨v3,l3,f3⟩;rcases ed:aL 0 (ents-1) l3 f3 with⟨v4,l4,f4⟩;have HE:Hid (gY ents ks.length s.next t an l flt=(⟨t+v1,v2,v3,v4⟩,l4,f4)):=by show _=_;simp[gY,ea,eb,ec,ed]
 have hl1:=dU 0 (1000000000000-t) (by omega) l flt
 rw[ea]at hl1;simp only at hl1;have HA:=aB ea;have HBb:=aB eb;have HCc:=aB ec;have HDd:=aB ed;clear ea eb ec ed;have hw6:IntKind.i64.wrap (t+v1)=t+v1:=by rw[IntKind.wrap_i64];omega
 go_enter Tryz.func122,Tryz.ntmps122
 go_wp2_with fail
 obtain⟨W0,hW0⟩:∃ W0,W0=(w.alloc (.cells #[.int .i64 an,.int .i64 t,.int .i64 k0,.int .i64 e0] 171)).alloc (.cells #[.int .i64 0,.int .i64 0,.int .i64 0,.int .i64 0] 171):=⟨_,rfl⟩;have hb0:Below w.heap.size w W0:=by rw[hW0];exact((Below.refl _ _).alloc (Nat.le_refl _) _).alloc (by simp) _
 have hz0:W0.heap.size=w.heap.size+2:=by rw[hW0];simp
 have x0:W0.cell? ⟨w.heap.size,0,none⟩=some (.int .i64 an):=by rw[hW0];simp[go_sem]
 have x1:W0.cell? ⟨w.heap.size,1,none⟩=some (.int .i64 t):=by rw[hW0];simp[go_sem]
 have xr:Room W0 (w.heap.size+1) 4:=by
  rw[hW0];intro j hj;have:j=0∨j=1∨j=2∨j=3:=by omega
  rcases this with rfl|rfl|rfl|rfl<;>simp[go_sem]
 rw[←hW0];clear hW0;have n1:=aA hb0 hkv hkl;have n0:=aA hb0 c0 hkl;have n5:=aA hb0 c5 hkl;have HB0:=aB hb0;have HR0:=aB (HR.out.only (Only.new (S:=fun _=>False) hb0) (by simp) (by simp))
 clear hb0 hkv c0 c5;refine(cN rb g l flt 0 (1000000000000-t) W0 HR0.out).mono ?_;rintro e w1 ⟨rfl,ho1,hr1⟩;rw[HA.out]at hr1 ⊢;simp only at hr1 ⊢;have y0:=ho1.at x0 (by omega)
 have y1:=ho1.at x1 (by omega)
 have yr:=aB (xr.only ho1 (by omega))
 have m0:=ho1.at n0 (Ne.symm hne);have m1:=ho1.at n1 (Ne.symm hne);have m5:=ho1.at n5 (Ne.symm hne);have hz1:=ho1.size;have HO1:=aB ((Only.new (S:=(·=rb)) HB0.out).trans ho1)
 have HR1:=aB hr1;clear x0 x1 xr n0 n1 n5 ho1 hr1;obtain⟨ls,hls⟩:∃ ls,ls=iB v1 an:=⟨_,rfl⟩;rw[←hls]at HBb;have key:∀ (Q:Prop),(v1=0→ls=an+1→Q)→(v1≠0→ls=1→Q)→Q:=by
  intro Q q1 q2
  by_cases h:v1=0
  ·exact q1 h (by rw[hls];simp[iB,h])
  ·exact q2 h (by rw[hls];simp[iB,h])
 have Hls:=aB hls;clear hls;have hkb1:kb<w1.heap.size:=by omega
 have A5:∀ o,(w1.alloc o).cell? ⟨kb,5,none⟩=some (.int .i64 s.next):=fun o=>aA ((Below.refl w1.heap.size w1).alloc (Nat.le_refl _) o) m5 hkb1
 apply key
 all_goals
  intro hv hl;subst hl
  first
   | (have d1:(v1==0)=true:=by rw[beq_iff_eq];exact hv)
   | (have d1:(v1==0)=false:=by rw[beq_eq_false_iff_ne];exact hv)
  have Hv:=aB hv;clear key hv
  go_wp2_with fail
  obtain⟨W1,hW1⟩:∃ W1,W1=w1.alloc (.cells #[.int .i64 0,.int .i64 (t+v1),.int .i64 0,.int .i64 0] 171):=⟨_,rfl⟩;have hb1:Below w1.heap.size w1 W1:=by rw[hW1];exact(Below.refl _ _).alloc (Nat.le_refl _) _
  have hzW:W1.heap.size=w1.heap.size+1:=by rw[hW1];simp
  have er:Room W1 w1.heap.size 4:=by
   rw[hW1];intro j hj;have:j=0∨j=1∨j=2∨j=3:=by omega
   rcases this with rfl|rfl|rfl|rfl<;>simp[go_sem]
  have e1:W1.cell? ⟨w1.heap.size,1,none⟩=some (.int .i64 (t+v1)):=by rw[hW1];simp[go_sem]
  rw[←hW1];clear hW1 A5;have p0:=aA hb1 m0 hkb1;have p1:=aA hb1 m1 hkb1;have HRW:=aB (HR1.out.only (Only.new (S:=fun _=>False) hb1) (by simp) (by simp))
  have HOW:=aB (HO1.out.trans (Only.new hb1));have hrr:=yr.out.below hb1 (by omega)
  clear m0 m1 m5 y0 y1 hb1;refine(cN rb g l1 f1 _ (s.next-1) W1 HRW.out).mono ?_
  rintro e w2 ⟨rfl,ho2,hr2⟩;rw[HBb.out]at hr2 ⊢;simp only at hr2 ⊢;have hz2:=ho2.size;have er2:=er.only ho2 (by omega)
  have e2:=ho2.at e1 (by omega)
  have q0:=ho2.at p0 (Ne.symm hne);have q1:=ho2.at p1 (Ne.symm hne);have hrr2:=hrr.only ho2 (by omega)
  have z20:=(er2 0 (by omega)).2
  obtain⟨u20,hu20⟩:=Option.isSome_iff_exists.1 (er2 0 (by omega)).1
  have A1:∀ v,(w2.setCell ⟨w1.heap.size,0,none⟩ v).cell? ⟨kb,1,none⟩=some (.slice ka ks.length kc):=fun v=>by rw[World.cell?_setCell_other _ _ _ _ (by simp<;>omega)];exact q1
  have HR2:=aB hr2;have HO2:=aB (HOW.out.trans ho2);have Her2:=aB er2;have Hrr2:=aB hrr2;clear ho2 hr2 er e1 p0 p1 hrr HRW HOW er2 hrr2
  go_wp2_with fail
  obtain⟨W2,hW2⟩:∃ W2,W2=w2.setCell ⟨w1.heap.size,0,none⟩ (.int .i64 v2):=⟨_,rfl⟩;have hoW2:Only (·=w1.heap.size) w2 W2:=by rw[hW2];exact(Only.refl (·=w1.heap.size) w2).setCell (p:=⟨w1.heap.size,0,none⟩) (show w1.heap.size=w1.heap.size from rfl) _
  have k20:W2.cell? ⟨w1.heap.size,0,none⟩=some (.int .i64 v2):=by rw[hW2];exact World.cell?_setCell_same' _ _ _ (Her2.out 0 (by omega)).1
  have k21:W2.cell? ⟨w1.heap.size,1,none⟩=some (.int .i64 (t+v1)):=by rw[hW2,World.cell?_setCell_other _ _ _ _ (by simp)];exact e2
  have erW:Room W2 w1.heap.size 4:=by rw[hW2];exact Her2.out.setCell _ _
  have hzW2:=hoW2.size;rw[←hW2];clear hW2 A1;have hgl:=HR.out.glt;have HRW2:=aB (HR2.out.only hoW2 (by omega) (by omega))
  have r0:=hoW2.at q0 (by omega)
  have HOW2:Hid (Only (·=rb) w W2):=HO2.out.chain hoW2 (fun i hi hc=>by omega)
  have hrrW:=Hrr2.out.only hoW2 (by omega)
  clear hoW2 q0 q1 e2 hu20 z20;refine(cN rb g l2 f2 0 _ W2 HRW2.out).mono ?_;rintro e w3 ⟨rfl,ho3,hr3⟩;rw[HCc.out]at hr3 ⊢;simp only at hr3 ⊢;have hz3:=ho3.size;have er3:=erW.only ho3 (by omega)
  have e30:=ho3.at k20 (by omega)
  have e31:=ho3.at k21 (by omega)
  have s0:=ho3.at r0 (Ne.symm hne);have hrr3:=hrrW.only ho3 (by omega)
  have z32:=(er3 2 (by omega)).2
  obtain⟨u32,hu32⟩:=Option.isSome_iff_exists.1 (er3 2 (by omega)).1
  have A0:∀ v,(w3.setCell ⟨w1.heap.size,2,none⟩ v).cell? ⟨kb,0,none⟩=some (.int .i64 ents):=fun v=>by rw[World.cell?_setCell_other _ _ _ _ (by simp<;>omega)];exact s0
  have HR3:=aB hr3;have HO3:=aB (HOW2.out.trans ho3);have Her3:=aB er3;have Hrr3:=aB hrr3;clear ho3 hr3 erW r0 hrrW er3 hrr3 k20 k21
  go_wp2_with fail
  obtain⟨W3,hW3⟩:∃ W3,W3=w3.setCell ⟨w1.heap.size,2,none⟩ (.int .i64 v3):=⟨_,rfl⟩;have hoW3:Only (·=w1.heap.size) w3 W3:=by rw[hW3];exact(Only.refl (·=w1.heap.size) w3).setCell (p:=⟨w1.heap.size,2,none⟩) (show w1.heap.size=w1.heap.size from rfl) _
  have k30:W3.cell? ⟨w1.heap.size,0,none⟩=some (.int .i64 v2):=by rw[hW3,World.cell?_setCell_other _ _ _ _ (by simp)];exact e30
  have k31:W3.cell? ⟨w1.heap.size,1,none⟩=some (.int .i64 (t+v1)):=by rw[hW3,World.cell?_setCell_other _ _ _ _ (by simp)];exact e31
  have k32:W3.cell? ⟨w1.heap.size,2,none⟩=some (.int .i64 v3):=by rw[hW3];exact World.cell?_setCell_same' _ _ _ (Her3.out 2 (by omega)).1
  have erW3:Room W3 w1.heap.size 4:=by rw[hW3];exact Her3.out.setCell _ _
  have hzW3:=hoW3.size;rw[←hW3];clear hW3 A0;have HRW3:=aB (HR3.out.only hoW3 (by omega) (by omega))
  have HOW3:Hid (Only (·=rb) w W3):=HO3.out.chain hoW3 (fun i hi hc=>by omega)
  have hrrW3:=Hrr3.out.only hoW3 (by omega)
  clear hoW3 s0 e30 e31 hu32 z32;refine(cN rb g l3 f3 0 _ W3 HRW3.out).mono ?_;rintro e w4 ⟨rfl,ho4,hr4⟩;rw[HDd.out]at hr4 ⊢;simp only at hr4 ⊢;have hz4:=ho4.size;have er4:=erW3.only ho4 (by omega)
  have e40:=ho4.at k30 (by omega)
  have e41:=ho4.at k31 (by omega)
  have e42:=ho4.at k32 (by omega)
  have hrr4:=hrrW3.only ho4 (by omega)
  have z43:=(er4 3 (by omega)).2
  obtain⟨u43,hu43⟩:=Option.isSome_iff_exists.1 (er4 3 (by omega)).1
  obtain⟨s0,g0⟩:=hrr4 0 (by omega)
  obtain⟨s1,g1⟩:=hrr4 1 (by omega)
  obtain⟨s2,g2⟩:=hrr4 2 (by omega)
  obtain⟨s3,g3⟩:=hrr4 3 (by omega)
  obtain⟨t0,i0⟩:=Option.isSome_iff_exists.1 s0;obtain⟨t1,i1⟩:=Option.isSome_iff_exists.1 s1;obtain⟨t2,i2⟩:=Option.isSome_iff_exists.1 s2;obtain⟨t3,i3⟩:=Option.isSome_iff_exists.1 s3;have HR4:=aB hr4;have HO4:=aB (HOW3.out.trans ho4);have Her4:=aB er4;have Hrr4:=aB hrr4;have hw1w:¬w1.heap.size=w.heap.size+1:=by omega
  clear ho4 hr4 erW3 hrrW3 er4 hrr4 k30 k31 k32 s0 s1 s2 s3
  go_wp2_with fail
  obtain⟨W4,hW4⟩:∃ W4,W4=w4.setCell ⟨w1.heap.size,3,none⟩ (.int .i64 v4):=⟨_,rfl⟩;have hoW4:Only (·=w1.heap.size) w4 W4:=by rw[hW4];exact(Only.refl (·=w1.heap.size) w4).setCell (p:=⟨w1.heap.size,3,none⟩) (show w1.heap.size=w1.heap.size from rfl) _
  rw[←hW4];clear hW4;have hrr5:=Hrr4.out.only hoW4 (by omega)
  have hzW4:=hoW4.size;obtain⟨WZ,hWZ⟩:∃ WZ,WZ=set4 W4 (w.heap.size+1) 0 ⟨v2,t+v1,v3,v4⟩:=⟨_,rfl⟩;obtain⟨t0',t1',t2',t3'⟩:=mQ W4 (w.heap.size+1) 0 4 ⟨v2,t+v1,v3,v4⟩ hrr5 (by omega)
  have hoZ:Only (·=w.heap.size+1) W4 WZ:=by rw[hWZ];exact(Only.refl (·=w.heap.size+1) W4).set4 (b:=w.heap.size+1) (show w.heap.size+1=w.heap.size+1 from rfl) 0 _
  have hWZ':=hWZ;simp only[set4,Nat.zero_add]at hWZ';rw[←hWZ]at t0' t1' t2' t3';rw[←hWZ'];simp only[Nat.zero_add]at t1' t2' t3';clear hWZ hWZ';refine bodyPost_ret (v:=.agg #[.int .i64 v2,.int .i64 (t+v1),.int .i64 v3,.int .i64 v4]) ?_ rfl ?_
  ·rw[kB rfl];simp[go_sem,t0',t1',t2',t3']
  rw[HE.out];refine⟨rfl,(HO4.out.chain hoW4 (fun i hi hc=>by omega)).chain hoZ (fun i hi hc=>by omega),?_⟩
  exact(HR4.out.only hoW4 (by omega) (by omega)).only hoZ (by omega) (by omega)
end Go.Proofs.YtndlmgocldckfaaGreat
