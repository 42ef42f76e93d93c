import Derived.Test.YtndlmgocldckfaaGreatG02
import Derived.Test.YtndlmgocldckfaaGreatG03
import Derived.Test.YtndlmgocldckfaaGreatBkR
import Derived.Deep.RegionHeld3
import Derived.Lib.SmallJoins
namespace Go.Proofs.YtndlmgocldckfaaGreat
open Go.RowKit
set_option linter.unusedVariables false
set_option linter.unusedSimpArgs false
set_option maxRecDepth 100000
set_option maxHeartbeats 4000000
def eW(a b:Rec):Bool:=decide (a.e.number=b.e.number)&&(decide (a.e.time=b.e.time)&&(decide (a.e.kind=b.e.kind)&&(decide (a.e.entity=b.e.entity)&&decide (a.told=b.told))))
def iH:Nat→List Rec→List Rec→Int
 | i,a::l,b::m=>if eW a b then iH (i+1) l m else (i:Int)
 | _,[],[]=>-1
 | i,[],_::_=>(i:Int)
 | i,_::_,[]=>(i:Int)
theorem aCt(a b:Rec):eW a b=true↔a=b:=by
 obtain⟨⟨a1,a2,a3,a4⟩,a5⟩:=a;obtain⟨⟨b1,b2,b3,b4⟩,b5⟩:=b;simp[eW];constructor
 ·rintro⟨h1,h2,h3,h4,h5⟩;exact⟨⟨h2,h1,h3,h4⟩,h5⟩
 ·rintro⟨⟨h1,h2,h3,h4⟩,h5⟩;exact⟨h2,h1,h3,h4,h5⟩
theorem vX(a b:List Rec)(i:Nat)(h1:i<a.length)(h2:i<b.length):iH i (a.drop i) (b.drop i)=if eW a[i] b[i]then iH (i+1) (a.drop (i+1)) (b.drop (i+1))else (i:Int):=by
 rw[List.drop_eq_getElem_cons h1,List.drop_eq_getElem_cons h2,iH]
theorem yW(a b:List Rec)(i:Nat)(h:i=min a.length b.length):iH i (a.drop i) (b.drop i)=if a.length=b.length then (-1:Int)else (i:Int):=by
 by_cases e:a.length=b.length
 ·rw[if_pos e,List.drop_eq_nil_of_le (by omega),List.drop_eq_nil_of_le (by omega),iH]
 ·rw[if_neg e]
  by_cases h2:a.length<b.length
  ·have e1:a.drop i=[]:=List.drop_eq_nil_of_le (by omega)
   rw[e1,List.drop_eq_getElem_cons (l:=b) (by omega),iH]
  ·have e1:b.drop i=[]:=List.drop_eq_nil_of_le (by omega)
   rw[e1,List.drop_eq_getElem_cons (l:=a) (by omega),iH]
theorem aAp(sa sb:Option Addr)(ca cb:Nat)(l m:List Int)(w:World)(h1:ToldIn w sa l)(h2:ToldIn w sb m)(hl:l.length≤1000000000000000) :
  Calls Tryz.prog 112 #[.slice sa l.length ca,.slice sb m.length cb] w fun e w'=>e=.returned (.bool (decide (l=m)))∧Below w.heap.size w w':=by
 have H1:=aB h1;have H2:=aB h2;clear h1 h2
 by_cases hlen:l.length=m.length
 rotate_left
 ·have d0:((l.length:Int) != (m.length:Int))=true:=by simpa using (by omega:¬(l.length:Int)=(m.length:Int))
  have hne:decide (l=m)=false:=by simp;intro hc;exact hlen (by rw[hc])
  rw[hne]
  go_enter Tryz.func112,Tryz.ntmps112
  go_wp2_with fail
  go_ret;exact⟨rfl,Below.refl _ _⟩
 rw[←hlen];have Hlen:=aB hlen;clear hlen
 go_enter Tryz.func112,Tryz.ntmps112
 go_wp2_with fail
 go_loopg [13] (l.length+3) (fun g s13 wr=>∃ (i:Nat),s13=.int .i64 i∧l.length-i+2≤g∧i≤l.length∧Hid (Below w.heap.size w wr∧l.take i=m.take i))
 case atStart=>exact⟨0,rfl,by omega,by omega,Below.refl _ _,by simp⟩
 case round=>
  obtain⟨i,rfl,hg,hi,hI⟩:=hrel
  by_cases hlt:i<l.length
  ·have d1:decide ((i:Int)<(l.length:Int))=true:=by simp;omega
   have hii:(i:Int)<(l.length:Int):=by omega
   have hw:IntKind.i64.wrap ((i:Int)+1)=(i:Int)+1:=by rw[IntKind.wrap_i64];omega
   have hlm:i<m.length:=by have:=Hlen.out;omega
   obtain⟨g1,o1,rfl,c1⟩:=H1.out i l[i] (List.getElem?_eq_getElem hlt);obtain⟨g2,o2,rfl,c2⟩:=H2.out i m[i] (List.getElem?_eq_getElem hlm)
   replace c1:=aA hI.out.1 c1 (aC c1)
   replace c2:=aA hI.out.1 c2 (aC c2)
   have HN:Hid (¬l[i]=m[i]→decide (l=m)=false):=by
    intro hne;simp only[decide_eq_false_iff_not];intro hc;subst hc;exact hne rfl
   have HY:Hid (l[i]=m[i]→l.take (i+1)=m.take (i+1)):=by
    intro he;rw[List.take_succ_eq_append_getElem hlt,List.take_succ_eq_append_getElem hlm,hI.out.2,he]
   generalize l[i]=x at c1 HN HY;generalize m[i]=y at c2 HN HY
   by_cases hxy:x=y
   ·subst hxy;have hT:=HY.out rfl;have HT:=aB hT;clear hT HN HY
    go_wp2_with fail
    go_quiet (fail)
    go_wp2_with fail
    go_roundg (l.length-(i+1)+2)
    case measure=>omega
    case rel=>exact⟨i+1,by go_num,Nat.le_refl _,by omega,below_drewN hI.out.1 _,HT.out⟩
   ·have hne:(x != y)=true:=by simpa using hxy
    have hF:=HN.out hxy;have HF:=aB hF;clear hF HN HY
    go_wp2_with fail
    go_quiet (fail)
    go_wp2_with fail
    go_ret;exact⟨by rw[HF.out];rfl,below_drewN hI.out.1 _⟩
  ·have d1:decide ((i:Int)<(l.length:Int))=false:=by simp;omega
   have he:l=m:=by
    have h1:=hI.out.2;rw[List.take_of_length_le (by omega),List.take_of_length_le (by have:=Hlen.out;omega)]at h1
    exact h1
   have hd:decide (l=m)=true:=by simpa using he
   have Hd:=aB hd;clear he hd
   go_wp2_with fail
   go_ret;exact⟨by rw[Hd.out];rfl,hI.out.1⟩
theorem yX(a b:Rec)(sa sb:Option Addr)(ca cb:Nat)(w:World)(h1:ToldIn w sa a.told)(h2:ToldIn w sb b.told)(hl:a.told.length≤1000000000000000) :
  Calls Tryz.prog 82 #[.agg #[.int .i64 a.e.number,.int .i64 a.e.time,.int .i64 a.e.kind,.int .i64 a.e.entity,.slice sa a.told.length ca],.agg #[.int .i64 b.e.number,.int .i64 b.e.time,.int .i64 b.e.kind,.int .i64 b.e.entity,.slice sb b.told.length cb]] w fun e w'=>e=.returned (.bool (eW a b))∧Below w.heap.size w w':=by
 have H1:=aB h1;have H2:=aB h2;obtain⟨⟨a1,a2,a3,a4⟩,a5⟩:=a;obtain⟨⟨b1,b2,b3,b4⟩,b5⟩:=b;simp only at H1 H2 hl ⊢;have HF:Hid (eW ⟨⟨a1,a2,a3,a4⟩,a5⟩ ⟨⟨b1,b2,b3,b4⟩,b5⟩=(decide (a2=b2)&&(decide (a1=b1)&&(decide (a3=b3)&&(decide (a4=b4)&&decide (a5=b5)))))):=by show _=_;rfl
 obtain⟨W1,hW1⟩:∃ W1,W1=(w.alloc (.cells #[.int .i64 a2,.int .i64 a1,.int .i64 a3,.int .i64 a4,.slice sa a5.length ca] 46)).alloc (.cells #[.int .i64 b2,.int .i64 b1,.int .i64 b3,.int .i64 b4,.slice sb b5.length cb] 46):=⟨_,rfl⟩;have hb1:Below w.heap.size w W1:=by rw[hW1];exact((Below.refl _ _).alloc (Nat.le_refl _) _).alloc (by simp) _
 have HB1:=aB hb1;have HQ:=aB (aAp sa sb ca cb a5 b5 W1 (H1.out.below hb1) (H2.out.below hb1) hl);clear h1 h2 hb1
 by_cases e2:a2=b2
 rotate_left
 ·have d:(a2==b2)=false:=by simpa using e2
  have hf:eW ⟨⟨a1,a2,a3,a4⟩,a5⟩ ⟨⟨b1,b2,b3,b4⟩,b5⟩=false:=by rw[HF.out];simp[e2]
  rw[hf]
  go_enter Tryz.func82,Tryz.ntmps82
  go_wp2_with fail
  go_ret;exact⟨rfl,by rw[←hW1];exact HB1.out⟩
 by_cases e1:a1=b1
 rotate_left
 ·have d:(a1==b1)=false:=by simpa using e1
  have hf:eW ⟨⟨a1,a2,a3,a4⟩,a5⟩ ⟨⟨b1,b2,b3,b4⟩,b5⟩=false:=by rw[HF.out];simp[e1]
  rw[hf];subst e2
  go_enter Tryz.func82,Tryz.ntmps82
  go_wp2_with fail
  go_ret;exact⟨rfl,by rw[←hW1];exact HB1.out⟩
 by_cases e3:a3=b3
 rotate_left
 ·have d:(a3==b3)=false:=by simpa using e3
  have hf:eW ⟨⟨a1,a2,a3,a4⟩,a5⟩ ⟨⟨b1,b2,b3,b4⟩,b5⟩=false:=by rw[HF.out];simp[e3]
  rw[hf];subst e2 e1
  go_enter Tryz.func82,Tryz.ntmps82
  go_wp2_with fail
  go_ret;exact⟨rfl,by rw[←hW1];exact HB1.out⟩
 by_cases e4:a4=b4
 rotate_left
 ·have d:(a4==b4)=false:=by simpa using e4
  have hf:eW ⟨⟨a1,a2,a3,a4⟩,a5⟩ ⟨⟨b1,b2,b3,b4⟩,b5⟩=false:=by rw[HF.out];simp[e4]
  rw[hf];subst e2 e1 e3
  go_enter Tryz.func82,Tryz.ntmps82
  go_wp2_with fail
  go_ret;exact⟨rfl,by rw[←hW1];exact HB1.out⟩
 have hf:eW ⟨⟨a1,a2,a3,a4⟩,a5⟩ ⟨⟨b1,b2,b3,b4⟩,b5⟩=decide (a5=b5):=by rw[HF.out];simp[e1,e2,e3,e4]
 rw[hf];subst e2 e1 e3 e4;generalize decide (a5=b5)=q at HQ ⊢
 go_enter Tryz.func82,Tryz.ntmps82
 go_wp2_with (go_at_call 112;rw[←hW1];refine HQ.out.mono ?_;rintro e w' ⟨rfl,hb'⟩)
 go_ret;exact⟨rfl,HB1.out.trans (hb'.mono HB1.out.size)⟩
theorem yY(a b:Option Addr)(ca cb:Nat)(ra rb:List Rec)(w:World)(h1:RecIn w a ra)(h2:RecIn w b rb)(hl:ra.length≤1000000000000000)(hm:rb.length≤1000000000000000)(ht:∀ r∈ra,r.told.length≤1000000000000000) :
  Calls Tryz.prog 42 #[.slice a ra.length ca,.slice b rb.length cb] w fun e w'=>e=.returned (.int .i64 (iH 0 ra rb))∧Below w.heap.size w w':=by
 have H1:=aB h1;have H2:=aB h2;have Ht:=aB ht;obtain⟨n,hn⟩:∃ n,n=min ra.length rb.length:=⟨_,rfl⟩;have hmin:min (ra.length:Int) (rb.length:Int)=(n:Int):=by omega
 have Hn:=aB hn;have hna:n≤ra.length:=by omega
 have hnb:n≤rb.length:=by omega
 clear h1 h2 ht hn;have key:(ra.length≤rb.length∧n=ra.length)∨(rb.length<ra.length∧n=rb.length):=by have:=Hn.out;omega
 clear hmin;rcases key with⟨hc,hnn⟩|⟨hc,hnn⟩
 all_goals
  have hci:(ra.length:Int)≤(rb.length:Int)∨(rb.length:Int)<(ra.length:Int):=by omega
  first
   | (have hmn:min (ra.length:Int) (rb.length:Int)=(ra.length:Int):=by omega)
   | (have hmn:min (ra.length:Int) (rb.length:Int)=(rb.length:Int):=by omega)
  have Hnn:=aB hnn;have Hc:=aB hc;clear hnn hci hc
  go_enter Tryz.func42,Tryz.ntmps42
  go_wp2_with fail
  clear hmn
  go_loopg [13] (n+3) (fun g s13 wr=>∃ (i:Nat),s13=.int .i64 i∧n-i+2≤g∧i≤n∧Hid (Below w.heap.size w wr∧iH i (ra.drop i) (rb.drop i)=iH 0 ra rb))
  case atStart=>exact⟨0,rfl,by omega,by omega,Below.refl _ _,by simp⟩
  case round=>
   obtain⟨i,rfl,hg,hi,hI⟩:=hrel
   by_cases hlt:i<n
   ·have hla:i<ra.length:=by omega
    have hlb:i<rb.length:=by omega
    have d1:decide ((i:Int)<(ra.length:Int))=true:=by simp;omega
    have d2:decide ((i:Int)<(rb.length:Int))=true:=by simp;omega
    have hia:(i:Int)<(ra.length:Int):=by omega
    have hib:(i:Int)<(rb.length:Int):=by omega
    have hw:IntKind.i64.wrap ((i:Int)+1)=(i:Int)+1:=by rw[IntKind.wrap_i64];omega
    obtain⟨g1,o1,sa,sca,rfl,c0,c1,c2,c3,c4,ct⟩:=(H1.out.below hI.out.1) i ra[i] (List.getElem?_eq_getElem hla);obtain⟨g2,o2,sb,scb,rfl,e0,e1,e2,e3,e4,et⟩:=(H2.out.below hI.out.1) i rb[i] (List.getElem?_eq_getElem hlb);have htl:=Ht.out ra[i] (List.getElem_mem hla);have HS:Hid (iH 0 ra rb=if eW ra[i] rb[i]then iH (i+1) (ra.drop (i+1)) (rb.drop (i+1))else (i:Int)):=by show _=_;rw[←hI.out.2];exact vX ra rb i hla hlb
    have HX:=aB (yX ra[i] rb[i] sa sb sca scb wr.drew (ct.below (Below.refl _ _).drew) (et.below (Below.refl _ _).drew) htl);generalize ra[i]=x at c0 c1 c2 c3 c4 HS HX;generalize rb[i]=y at e0 e1 e2 e3 e4 HS HX;obtain⟨⟨xt,xn,xk,xe⟩,xl⟩:=x;obtain⟨⟨yt,yn,yk,ye⟩,yl⟩:=y;simp only at c0 c1 c2 c3 c4 e0 e1 e2 e3 e4 HX;generalize eW ⟨⟨xt,xn,xk,xe⟩,xl⟩ ⟨⟨yt,yn,yk,ye⟩,yl⟩=q at HS HX;clear ct et htl
    go_wp2_with fail
    go_region_held3 (fun W'=>W'.cell? ⟨g1,o1+i*5,none⟩=some (.int .i64 xn)∧W'.cell? ⟨g1,o1+i*5+1,none⟩=some (.int .i64 xt)∧W'.cell? ⟨g1,o1+i*5+2,none⟩=some (.int .i64 xk)∧W'.cell? ⟨g1,o1+i*5+3,none⟩=some (.int .i64 xe)∧W'.cell? ⟨g1,o1+i*5+4,none⟩=some (.slice sa xl.length sca)∧W'.cell? ⟨g2,o2+i*5,none⟩=some (.int .i64 yn)∧W'.cell? ⟨g2,o2+i*5+1,none⟩=some (.int .i64 yt)∧W'.cell? ⟨g2,o2+i*5+2,none⟩=some (.int .i64 yk)∧W'.cell? ⟨g2,o2+i*5+3,none⟩=some (.int .i64 ye)∧W'.cell? ⟨g2,o2+i*5+4,none⟩=some (.slice sb yl.length scb))
     (first|exact⟨c0,c1,c2,c3,c4,e0,e1,e2,e3,e4⟩|exact⟨aA hb2 c0 (aC c0),aA hb2 c1 (aC c1),aA hb2 c2 (aC c2),aA hb2 c3 (aC c3),aA hb2 c4 (aC c4),aA hb2 e0 (aC e0),aA hb2 e1 (aC e1),aA hb2 e2 (aC e2),aA hb2 e3 (aC e3),aA hb2 e4 (aC e4)⟩)
     (first|(go_at_call 82;refine HX.out.mono ?_;rintro e' w2 ⟨rfl,hb2'⟩;(have hb2:Below wr.heap.size wr w2:=(Below.refl _ _).drew.trans hb2')))
    have HB2:Hid (Below w.heap.size w w2):=hI.out.1.trans (hb2.mono hI.out.1.size);clear hb2 hb2' HX c0 c1 c2 c3 c4 e0 e1 e2 e3 e4;rcases q with _|_
    ·have hq:=HS.out;simp only[Bool.false_eq_true,if_false]at hq;have Hq:=aB hq;clear hq
     go_wp2_with fail
     go_ret;exact⟨by rw[Hq.out];rfl,HB2.out⟩
    ·have hq:=HS.out;simp only[if_true]at hq;have Hq:=aB hq;clear hq
     go_wp2_with fail
     go_roundg (n-(i+1)+2)
     case measure=>omega
     case rel=>exact⟨i+1,by go_num,Nat.le_refl _,by omega,HB2.out,Hq.out.symm⟩
   ·have hq:=hI.out.2;rw[yW ra rb i (by have:=Hn.out;omega)]at hq
    have Hq:=aB hq
    first
     | (have d1:¬i<ra.length:=by(have:=Hnn.out;omega))
     | (have d1:¬i<rb.length:=by(have:=Hnn.out;omega))
    have Hin:Hid (i=n):=by(show _=_;omega)
    by_cases hab:ra.length=rb.length
    ·have d3:((ra.length:Int)==(rb.length:Int))=true:=by rw[beq_iff_eq];omega
     have hz:iH 0 ra rb=-1:=by rw[←Hq.out,if_pos hab]
     have Hz:=aB hz;have Hab:=aB hab;clear hq hz hab
     go_wp2_with fail
     go_ret;exact⟨by rw[Hz.out];rfl,hI.out.1⟩
    ·have d3:((ra.length:Int)==(rb.length:Int))=false:=by rw[beq_eq_false_iff_ne];omega
     have hz:iH 0 ra rb=(n:Int):=by rw[←Hq.out,if_neg hab,Hin.out]
     have Hz:=aB hz;have Hab:=aB hab;clear hq hz hab
     go_wp2_with fail
     go_ret;exact⟨by rw[Hz.out,Hnn.out];rfl,hI.out.1⟩
theorem wG(a b:Rec)(sa sb:Option Addr)(ca cb:Nat)(w:World)(h1:ToldIn w sa a.told)(h2:ToldIn w sb b.told)(hl:a.told.length≤1000000000000000) :
  Calls Tryz.prog 72 #[.agg #[.int .i64 a.e.number,.int .i64 a.e.time,.int .i64 a.e.kind,.int .i64 a.e.entity,.slice sa a.told.length ca],.agg #[.int .i64 b.e.number,.int .i64 b.e.time,.int .i64 b.e.kind,.int .i64 b.e.entity,.slice sb b.told.length cb]] w fun e w'=>e=.returned (.bool (eW a b))∧Below w.heap.size w w':=by
 obtain⟨⟨a1,a2,a3,a4⟩,l⟩:=a;obtain⟨⟨b1,b2,b3,b4⟩,m⟩:=b;simp only at h1 h2 hl ⊢;obtain⟨W1,hW1⟩:∃ W1,W1=(w.alloc (.cells #[.int .i64 a2,.int .i64 a1,.int .i64 a3,.int .i64 a4,.slice sa l.length ca] 46)).alloc (.cells #[.int .i64 b2,.int .i64 b1,.int .i64 b3,.int .i64 b4,.slice sb m.length cb] 46):=⟨_,rfl⟩;have hb1:Below w.heap.size w W1:=by rw[hW1];exact((Below.refl _ _).alloc (Nat.le_refl _) _).alloc (by simp) _
 have hz1:W1.heap.size=w.heap.size+2:=by rw[hW1];simp
 have x4:W1.cell? ⟨w.heap.size,4,none⟩=some (.slice sa l.length ca):=by rw[hW1];simp[go_sem]
 have y4:W1.cell? ⟨w.heap.size+1,4,none⟩=some (.slice sb m.length cb):=by rw[hW1];simp[go_sem]
 have HB1:=aB hb1;have H1:=aB (h1.below hb1);have H2:=aB (h2.below hb1);clear h1 h2 hb1;have HF:Hid (eW ⟨⟨a1,a2,a3,a4⟩,l⟩ ⟨⟨b1,b2,b3,b4⟩,m⟩=(decide (a2=b2)&&(decide (a1=b1)&&(decide (a3=b3)&&(decide (a4=b4)&&decide (l=m)))))):=by show _=_;rfl
 by_cases e2:a2=b2
 rotate_left
 ·have d:(a2 != b2)=true:=by simpa using e2
  have hf:eW ⟨⟨a1,a2,a3,a4⟩,l⟩ ⟨⟨b1,b2,b3,b4⟩,m⟩=false:=by rw[HF.out];simp[e2]
  rw[hf]
  go_enter Tryz.func72,Tryz.ntmps72
  go_wp2_with fail
  go_ret;exact⟨rfl,by rw[←hW1];exact HB1.out⟩
 by_cases e1:a1=b1
 rotate_left
 ·have d:(a1 != b1)=true:=by simpa using e1
  have hf:eW ⟨⟨a1,a2,a3,a4⟩,l⟩ ⟨⟨b1,b2,b3,b4⟩,m⟩=false:=by rw[HF.out];simp[e1]
  rw[hf];subst e2
  go_enter Tryz.func72,Tryz.ntmps72
  go_wp2_with fail
  go_ret;exact⟨rfl,by rw[←hW1];exact HB1.out⟩
 by_cases e3:a3=b3
 rotate_left
 ·have d:(a3 != b3)=true:=by simpa using e3
  have hf:eW ⟨⟨a1,a2,a3,a4⟩,l⟩ ⟨⟨b1,b2,b3,b4⟩,m⟩=false:=by rw[HF.out];simp[e3]
  rw[hf];subst e2 e1
  go_enter Tryz.func72,Tryz.ntmps72
  go_wp2_with fail
  go_ret;exact⟨rfl,by rw[←hW1];exact HB1.out⟩
 by_cases e4:a4=b4
 rotate_left
 ·have d:(a4 != b4)=true:=by simpa using e4
  have hf:eW ⟨⟨a1,a2,a3,a4⟩,l⟩ ⟨⟨b1,b2,b3,b4⟩,m⟩=false:=by rw[HF.out];simp[e4]
  rw[hf];subst e2 e1 e3
  go_enter Tryz.func72,Tryz.ntmps72
  go_wp2_with fail
  go_ret;exact⟨rfl,by rw[←hW1];exact HB1.out⟩
 subst e2 e1 e3 e4;have HR:Hid (eW ⟨⟨a1,a2,a3,a4⟩,l⟩ ⟨⟨a1,a2,a3,a4⟩,m⟩=decide (l=m)):=by show _=_;rw[HF.out];simp
 clear HF
 by_cases hlen:l.length=m.length
 rotate_left
 ·have d0:((l.length:Int) != (m.length:Int))=true:=by simpa using (by omega:¬(l.length:Int)=(m.length:Int))
  have hne:decide (l=m)=false:=by simp;intro hc;exact hlen (by rw[hc])
  rw[HR.out,hne]
  go_enter Tryz.func72,Tryz.ntmps72
  go_wp2_with fail
  go_ret;exact⟨rfl,by rw[←hW1];exact HB1.out⟩
 rw[HR.out];rw[←hlen]at y4 hW1;rw[←hlen];have Hlen:=aB hlen;clear hlen HR
 go_enter Tryz.func72,Tryz.ntmps72
 go_wp2_with fail
 rw[←hW1];have HW1:=aB hW1;clear hW1
 go_loopg [5] (l.length+3) (fun g s9 wr=>∃ (i:Nat),s9=.int .i64 i∧l.length-i+2≤g∧i≤l.length∧Hid (Below W1.heap.size W1 wr∧l.take i=m.take i))
 case atStart=>exact⟨0,rfl,by omega,by omega,Below.refl _ _,by simp⟩
 case round=>
  obtain⟨i,rfl,hg,hi,hI⟩:=hrel;have p4:=aA hI.out.1 x4 (by omega)
  have q4:=aA hI.out.1 y4 (by omega)
  by_cases hlt:i<l.length
  ·have d1:decide ((i:Int)<(l.length:Int))=true:=by simp;omega
   have hii:(i:Int)<(l.length:Int):=by omega
   have hw:IntKind.i64.wrap ((i:Int)+1)=(i:Int)+1:=by rw[IntKind.wrap_i64];omega
   have hlm:i<m.length:=by have:=Hlen.out;omega
   obtain⟨g1,o1,rfl,c1⟩:=H1.out i l[i] (List.getElem?_eq_getElem hlt);obtain⟨g2,o2,rfl,c2⟩:=H2.out i m[i] (List.getElem?_eq_getElem hlm)
   replace c1:=aA hI.out.1 c1 (aC c1)
   replace c2:=aA hI.out.1 c2 (aC c2)
   have HN:Hid (¬l[i]=m[i]→decide (l=m)=false):=by
    intro hne;simp only[decide_eq_false_iff_not];intro hc;subst hc;exact hne rfl
   have HY:Hid (l[i]=m[i]→l.take (i+1)=m.take (i+1)):=by
    intro he;rw[List.take_succ_eq_append_getElem hlt,List.take_succ_eq_append_getElem hlm,hI.out.2,he]
   generalize l[i]=x at c1 HN HY;generalize m[i]=y at c2 HN HY;clear x4 y4
   by_cases hxy:x=y
   ·subst hxy;have hT:=HY.out rfl;have HT:=aB hT;clear hT HN HY
    go_wp2_with fail
    go_quiet (fail)
    go_wp2_with fail
    go_roundg (l.length-(i+1)+2)
    case measure=>omega
    case rel=>exact⟨i+1,by go_num,Nat.le_refl _,by omega,below_drewN hI.out.1 _,HT.out⟩
   ·have hne:(x != y)=true:=by simpa using hxy
    have hF:=HN.out hxy;have HF:=aB hF;clear hF HN HY
    go_wp2_with fail
    go_quiet (fail)
    go_wp2_with fail
    go_ret;exact⟨by rw[HF.out];rfl,HB1.out.trans ((below_drewN hI.out.1 _).mono (by omega))⟩
  ·have d1:decide ((i:Int)<(l.length:Int))=false:=by simp;omega
   have he:l=m:=by
    have h1:=hI.out.2;rw[List.take_of_length_le (by omega),List.take_of_length_le (by have:=Hlen.out;omega)]at h1
    exact h1
   have hd:decide (l=m)=true:=by simpa using he
   have Hd:=aB hd;clear he hd
   go_wp2_with fail
   go_ret;exact⟨by rw[Hd.out];rfl,HB1.out.trans (hI.out.1.mono (by omega))⟩
theorem aF6(w:World)(a:Option Addr)(n c:Nat):(binOp .eql 39 (.slice a n c) (.slice none 0 0)).run Tryz.prog w=.ok (.bool a.isNone) w:=Lib.run_eql_slice_nil w _ _ a n c 0 0 Tryz.underlying39
attribute [local go_sem] aF6
theorem AllR.below{w w':World}{Z:Nat}{av:Value}{L:List RecC}{rs:List Rec}(h:AllR w Z av L rs)(hb:Below w.heap.size w w'):AllR w' Z av L rs:=h.only (Only.new (S:=fun _=>False) hb) (by simp)
theorem zY(r:Rec):eW r r=true:=(aCt r r).2 rfl
theorem jF{Z:Nat}(wb:Nat)(k:BkD)(la ma:Option Addr)(n lc mc:Nat)(L:List RecC)(rs:List Rec)(e:Int)(w:World)(h:BkP w wb k)(hl:AllR w Z (.slice la n lc) L rs)(hA:ApartR L)(hm:RecIn w ma rs)(hZ:Z≤w.heap.size)(hn:n≤1000)(ht:∀ r∈rs,r.told.length≤1000000)(h4:k.il.length % 4=0)(h4r:k.rl.length % 4=0)(hlen:k.il.length+4*n≤1099511627776)(hlenr:k.rl.length≤1099511627776)(hls:∀ b,gF (.slice la n lc) L b→¬k.set b∧b≠wb)(he:e=0∨(la=none∧n=0∧lc=0)) :
  Calls Tryz.prog 36 #[.pointer (some ⟨wb,0,none⟩),.slice la n lc,.int .i64 e,.slice ma n mc,.int .i64 e] w fun x w'=>x=.returned (.bool true)∧∃ k',BkStep wb k k' (gF (.slice la n lc) L) w w'∧k'.il.length≤k.il.length+4*n∧k'.il.length % 4=0∧k'.rl.length=k.rl.length+4∧k'.bl=k.bl:=by
 have hrn:rs.length=n:=by
  obtain⟨_,_,hc⟩:=aM hl.row;simp only[Value.slice.injEq]at hc;rw[←hl.len];exact hc.2.1.symm
 have HK:Hid (∀ w',Below w.heap.size w w'→Calls Tryz.prog 73 #[.pointer (some ⟨wb,1,none⟩),.slice la n lc] w' fun e w''=>e=.returned (.tuple #[])∧∃ k',BkStep wb k k' (gF (.slice la n lc) L) w w''∧k'.il.length≤k.il.length+4*n∧k'.il.length % 4=0∧k'.rl.length=k.rl.length+4∧k'.bl=k.bl):=by
  intro w' hb;refine(oW wb k la n lc L rs w' (h.below hb) (hl.below hb) hA (Nat.le_trans hZ hb.size) hn ht h4 h4r hlen hlenr hls).mono ?_;rintro e w'' ⟨rfl,k',hs,hrest⟩;exact⟨rfl,k',hs.pre (Only.new hb) (fun hc=>(hls wb hc).2 rfl),hrest⟩
 obtain⟨la',lcap,hlv,hLI⟩:=hl.recIn;rw[hrn]at hlv;simp only[Value.slice.injEq,true_and]at hlv;obtain⟨rfl,rfl⟩:=hlv;have HL:=aB hLI;have HM:=aB hm;have Ht:=aB ht;have Hrn:=aB hrn;have hwl:=h.lt;clear h hl hA hm ht hls hLI hrn h4 h4r hlen hlenr;have hee:(e==e)=true:=by simp
 have hnn:((n:Int)==(n:Int))=true:=by simp
 have hcase:(la=none∧n=0)∨(∃ a,la=some a)∧e=0:=by
  rcases la with _|a
  ·refine .inl ⟨rfl,?_⟩;rcases Nat.eq_zero_or_pos n with h0|h0
   ·exact h0
   ·obtain⟨_,_,_,_,hx,_⟩:=HL.out 0 (rs[0]'(by have:=Hrn.out;omega)) (List.getElem?_eq_getElem _)
    cases hx
  ·rcases he with he|⟨he,_⟩
   ·exact .inr ⟨⟨a,rfl⟩,he⟩
   ·cases he
 clear he;have hn0:(n:Int)≤1000:=by omega
 rcases hcase with⟨rfl,hn00⟩|⟨⟨a,rfl⟩,rfl⟩
 ·have Hn00:=aB hn00;clear hn00
  go_enter Tryz.func36,Tryz.ntmps36
  go_wp2_with fail
  go_loopg [11,12] (n+3) (fun g s11 s12 wr=>∃ (i:Nat),s11=.bool true∧s12=.int .i64 i∧n-i+2≤g∧i≤n∧Hid (Below w.heap.size w wr))
  case atStart=>exact⟨0,rfl,rfl,by omega,by omega,Below.refl _ _⟩
  case round=>
   obtain⟨i,rfl,rfl,hg,hi,hI⟩:=hrel;have hlt:¬i<n:=by have:=Hn00.out;omega
   have d1:decide ((i:Int)<(n:Int))=false:=by simp;omega
   have HKK:=aB (HK.out wr hI.out)
   go_wp2_with fail
   refine HKK.out.mono ?_;rintro e5 w5 ⟨rfl,k',hs,hrest⟩;have HS:=aB hs;have HR:=aB hrest;clear hs hrest HKK
   go_wp2_with fail
   go_ret;exact⟨rfl,k',HS.out,HR.out⟩
 ·go_enter Tryz.func36,Tryz.ntmps36
  go_wp2_with fail
  go_loopg [11,12] (n+3) (fun g s11 s12 wr=>∃ (i:Nat),s11=.bool true∧s12=.int .i64 i∧n-i+2≤g∧i≤n∧Hid (Below w.heap.size w wr))
  case atStart=>exact⟨0,rfl,rfl,by omega,by omega,Below.refl _ _⟩
  case round=>
   obtain⟨i,rfl,rfl,hg,hi,hI⟩:=hrel
   by_cases hlt:i<n
   ·have d1:decide ((i:Int)<(n:Int))=true:=by simp;omega
    have hii:(i:Int)<(n:Int):=by omega
    have hw:IntKind.i64.wrap ((i:Int)+1)=(i:Int)+1:=by rw[IntKind.wrap_i64];omega
    have hir:i<rs.length:=by have:=Hrn.out;omega
    have htl:=Ht.out rs[i] (List.getElem_mem hir);obtain⟨g1,o1,sa,sca,hla,c0,c1,c2,c3,c4,ct⟩:=(HL.out.below hI.out) i rs[i] (List.getElem?_eq_getElem hir);obtain⟨g2,o2,sb,scb,hma,e0,e1,e2,e3,e4,et⟩:=(HM.out.below hI.out) i rs[i] (List.getElem?_eq_getElem hir);cases hla;cases hma;have HX:=aB (wG rs[i] rs[i] sa sb sca scb wr.drew (ct.below (Below.refl _ _).drew) (et.below (Below.refl _ _).drew) (by omega))
    rw[zY]at HX;generalize rs[i]=x at c0 c1 c2 c3 c4 e0 e1 e2 e3 e4 HX;obtain⟨⟨xt,xn,xk,xe⟩,xl⟩:=x;simp only at c0 c1 c2 c3 c4 e0 e1 e2 e3 e4 HX;clear ct et htl
    go_wp2_with fail
    go_region_held3 (fun W'=>W'.cell? ⟨g1,o1+i*5,none⟩=some (.int .i64 xn)∧W'.cell? ⟨g1,o1+i*5+1,none⟩=some (.int .i64 xt)∧W'.cell? ⟨g1,o1+i*5+2,none⟩=some (.int .i64 xk)∧W'.cell? ⟨g1,o1+i*5+3,none⟩=some (.int .i64 xe)∧W'.cell? ⟨g1,o1+i*5+4,none⟩=some (.slice sa xl.length sca)∧W'.cell? ⟨g2,o2+i*5,none⟩=some (.int .i64 xn)∧W'.cell? ⟨g2,o2+i*5+1,none⟩=some (.int .i64 xt)∧W'.cell? ⟨g2,o2+i*5+2,none⟩=some (.int .i64 xk)∧W'.cell? ⟨g2,o2+i*5+3,none⟩=some (.int .i64 xe)∧W'.cell? ⟨g2,o2+i*5+4,none⟩=some (.slice sb xl.length scb))
     (first|exact⟨c0,c1,c2,c3,c4,e0,e1,e2,e3,e4⟩|exact⟨aA hb2 c0 (aC c0),aA hb2 c1 (aC c1),aA hb2 c2 (aC c2),aA hb2 c3 (aC c3),aA hb2 c4 (aC c4),aA hb2 e0 (aC e0),aA hb2 e1 (aC e1),aA hb2 e2 (aC e2),aA hb2 e3 (aC e3),aA hb2 e4 (aC e4)⟩)
     (first|(go_at_call 72;refine HX.out.mono ?_;rintro e' w2 ⟨rfl,hb2'⟩;(have hb2:Below wr.heap.size wr w2:=(Below.refl _ _).drew.trans hb2')))
    have HB2:Hid (Below w.heap.size w w2):=hI.out.trans (hb2.mono hI.out.size);clear hb2 hb2' HX c0 c1 c2 c3 c4 e0 e1 e2 e3 e4
    go_wp2_with fail
    go_roundg (n-(i+1)+2)
    case measure=>omega
    case rel=>exact⟨i+1,rfl,by go_num,Nat.le_refl _,by omega,HB2.out⟩
   ·have d1:decide ((i:Int)<(n:Int))=false:=by simp;omega
    have HKK:=aB (HK.out wr hI.out)
    go_wp2_with fail
    refine HKK.out.mono ?_;rintro e5 w5 ⟨rfl,k',hs,hrest⟩;have HS:=aB hs;have HR:=aB hrest;clear hs hrest HKK
    go_wp2_with fail
    go_ret;exact⟨rfl,k',HS.out,HR.out⟩
end Go.Proofs.YtndlmgocldckfaaGreat
