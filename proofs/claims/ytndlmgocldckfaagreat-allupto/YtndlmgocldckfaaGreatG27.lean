import Derived.Test.YtndlmgocldckfaaGreatG26
import Derived.Laws.IdiomStrings
namespace Go.Proofs.YtndlmgocldckfaaGreat
open Go.RowKit
set_option linter.unusedVariables false
set_option linter.unusedSimpArgs false
set_option maxRecDepth 100000
set_option maxHeartbeats 4000000
def dK:Nat→Nat→Int→List Int→Int×Nat
 | 0,_,_,_=>(0,0)
 | _,_,_,[]=>(0,0)
 | f+1,i,acc,c::l=>
  if c=0∧0<i then (0,0)
  else if c<128 then (acc+c % 128*128 ^ i,i+1)
  else dK f (i+1) (acc+c % 128*128 ^ i) l
def fC(l:List Int):Int×Nat:=dK 9 0 0 l
theorem aBf(i:Nat)(hi:i<9)(x:Int)(h0:0≤x)(h1:x<128):IntKind.i64.wrap (x*2 ^ (7*i))=x*128 ^ i:=by
 have hc:i=0∨i=1∨i=2∨i=3∨i=4∨i=5∨i=6∨i=7∨i=8:=by omega
 rcases hc with rfl|rfl|rfl|rfl|rfl|rfl|rfl|rfl|rfl<;>(rw[IntKind.wrap_i64];simp;omega)
theorem aEi(i:Nat)(hi:i<9)(acc x:Int)(ha:0≤acc)(ha':acc<128 ^ i)(h0:0≤x)(h1:x<128):bits .or .i64 acc (x*128 ^ i)=acc+x*128 ^ i:=by
 obtain⟨a,rfl⟩:=Int.eq_ofNat_of_zero_le ha;obtain⟨b,rfl⟩:=Int.eq_ofNat_of_zero_le h0;have hp:(128:Int) ^ i=((2 ^ (7*i):Nat):Int):=by
  rw[Nat.pow_mul];simp
 rw[hp]at ha' ⊢;have hpb:2 ^ (7*i)≤2 ^ 56:=Nat.pow_le_pow_right (by omega) (by omega)
 have hal:a<2 ^ (7*i):=by omega
 have hmul:b*2 ^ (7*i)≤127*2 ^ 56:=Nat.mul_le_mul (by omega) hpb
 have e1:((b:Int)*((2 ^ (7*i):Nat):Int))=((b*2 ^ (7*i):Nat):Int):=by simp
 rw[e1];have hor:a ||| b*2 ^ (7*i)=a+b*2 ^ (7*i):=by
  have:=Nat.two_pow_add_eq_or_of_lt hal b;rw[Nat.mul_comm (2 ^ (7*i)) b]at this;rw[Nat.or_comm,←this];omega
 generalize b*2 ^ (7*i)=y at hmul hor;have hy:y≤127*72057594037927936:=by simpa using hmul
 have ha2:a≤72057594037927936:=by have:a<2 ^ 56:=Nat.lt_of_lt_of_le hal hpb;simp at this;omega
 have h1:(BitVec.ofInt 64 (a:Int)).toNat=a:=by
  rw[BitVec.ofInt_natCast,BitVec.toNat_ofNat];exact Nat.mod_eq_of_lt (by omega)
 have h2:(BitVec.ofInt 64 (y:Int)).toNat=y:=by
  rw[BitVec.ofInt_natCast,BitVec.toNat_ofNat];exact Nat.mod_eq_of_lt (by omega)
 show IntKind.i64.wrap ((BitVec.ofInt 64 (a:Int) ||| BitVec.ofInt 64 (y:Int)).toNat:Int)=_;rw[BitVec.toNat_or,h1,h2,hor,IntKind.wrap_i64];omega
theorem tJ(l:List Int)(i:Nat)(acc:Int)(hi:i<l.length)(h9:i<9) :
  dK (9-i) i acc (l.drop i)=if l[i]=0∧0<i then (0,0)else if l[i]<128 then (acc+l[i] % 128*128 ^ i,i+1)else dK (9-(i+1)) (i+1) (acc+l[i] % 128*128 ^ i) (l.drop (i+1)):=by
 rw[List.drop_eq_getElem_cons hi,show 9-i=(9-(i+1))+1 by omega,dK]
theorem wB(l:List Int)(i:Nat)(acc:Int)(h:l.length≤i∨9≤i):dK (9-i) i acc (l.drop i)=(0,0):=by
 rcases h with h|h
 ·rw[List.drop_eq_nil_of_le h];cases 9-i<;>rfl
 ·rw[show 9-i=0 by omega]
  rfl
theorem aFn(b off cap:Nat)(l:List Int)(w:World)(hr:RowAt w b off (aI l))(hl:l.length≤2000000000000000)(hv:∀ c∈l,0≤c∧c<256)(hlc:l.length≤cap) :
  Calls Tryz.prog 121 #[.slice (some ⟨b,off,none⟩) l.length cap] w fun e w'=>e=.returned (.tuple #[.int .i64 (fC l).1,.int .i64 (fC l).2])∧Below w.heap.size w w':=by
 have Hr:=aB hr;have Hv:=aB hv;clear hr hv
 by_cases h9:l.length≤9
 ·have hm:min (l.length:Int) 9=(l.length:Int):=by omega
  go_enter Tryz.func121,Tryz.ntmps121
  go_wp2_with fail
  clear hm
  go_loopg [4,13] 12 (fun g s4 s13 wr=>∃ (i:Nat) (acc:Int),s13=.int .i64 i∧s4=.int .i64 acc∧9-i+1≤g∧i≤l.length∧0≤acc∧Hid (acc<128 ^ i∧dK (9-i) i acc (l.drop i)=fC l)∧Hid (Below w.heap.size w wr))
  case atStart=>exact⟨0,0,rfl,rfl,by omega,by omega,by omega,⟨by simp,by simp[fC]⟩,Below.refl _ _⟩
  case round=>
   obtain⟨i,acc,rfl,rfl,hg,hi,ha0,hI,hB⟩:=hrel
   by_cases hlt:i<l.length
   ·have hil:i<l.length:=by omega
    have d1:decide ((i:Int)<(l.length:Int))=true:=by simp;omega
    have hii:(i:Int)<(l.length:Int):=by omega
    have hw:IntKind.i64.wrap ((i:Int)+1)=(i:Int)+1:=by rw[IntKind.wrap_i64];omega
    have hw7:IntKind.i64.wrap (7*(i:Int))=7*(i:Int):=by rw[IntKind.wrap_i64];omega
    have hc:=Hr.out i (.int .u8 l[i]) (by simp[aI,hil])
    have hc':=aA hB.out hc (aC hc);have hx:=Hv.out l[i] (List.getElem_mem hil);have HF:Hid (fC l=if l[i]=0∧0<i then (0,0)else if l[i]<128 then (acc+l[i] % 128*128 ^ i,i+1)else dK (9-(i+1)) (i+1) (acc+l[i] % 128*128 ^ i) (l.drop (i+1))):=by
     show _=_;rw[←hI.out.2];exact tJ l i acc hil (by omega)
    generalize l[i]=c at hc hc' hx HF;have hs0:=aBf i (by omega) (c % 128) (by omega) (by omega)
    have hs1:wrap64 (c % 128*2 ^ (7*i))=c % 128*128 ^ i:=by have:=hs0;rw[IntKind.wrap_i64]at this;unfold wrap64;exact this
    have hs2:=aEi i (by omega) acc (c % 128) ha0 hI.out.1 (by omega) (by omega)
    have hnn:0≤acc+c % 128*128 ^ i∧acc+c % 128*128 ^ i<128 ^ (i+1):=by
     have h1:(0:Int)<128 ^ i:=Int.pow_pos (by omega)
     have h2:=hI.out.1;rw[Int.pow_succ];generalize (128:Int) ^ i=X at h1 h2;have h3:0≤c % 128*X:=Int.mul_nonneg (by omega) (by omega)
     have h4:c % 128*X≤127*X:=Int.mul_le_mul_of_nonneg_right (by omega) (by omega)
     omega
    have Hnn:=aB hnn;clear hnn hc;generalize hsh:c % 128*128 ^ i=sh at hs0 hs1 hs2 HF Hnn;have Hsh:=aB hsh;have Hs2:=aB hs2;clear hsh
    by_cases hc0:c=0∧0<i
    ·have hq:fC l=(0,0):=by rw[HF.out,if_pos hc0]
     have Hq:=aB hq;obtain⟨rfl,hi0⟩:=hc0;clear hq;have d2:decide (0<(i:Int))=true:=by rw[decide_eq_true_eq];omega
     go_wp2_with fail
     go_ret2;exact⟨by rw[Hq.out];rfl,hB.out⟩
    ·by_cases hcs:c<128
     ·have d3:decide (c<128)=true:=by simpa using hcs
      have hq:=HF.out;rw[if_neg hc0,if_pos hcs]at hq;have Hq:=aB hq;clear hq
      by_cases hz:c=0
      ·subst hz;obtain rfl:i=0:=by omega
       simp only[Nat.add_zero]at hc';have hs3:=Hs2.out;obtain rfl:sh=0:=by have:=Hsh.out;simp at this;omega
       go_wp2_with fail
       go_ret2;exact⟨by rw[Hq.out];simp,hB.out⟩
      ·have d4:(c==0)=false:=by rw[beq_eq_false_iff_ne];exact hz
       go_wp2_with fail
       go_ret2;exact⟨by rw[Hq.out];simp,hB.out⟩
     ·have d3:decide (c<128)=false:=by simpa using hcs
      have d4:(c==0)=false:=by rw[beq_eq_false_iff_ne];omega
      have hq:=HF.out;rw[if_neg hc0,if_neg hcs]at hq;have Hq:=aB hq;clear hq
      go_wp2_with fail
      go_roundg (9-(i+1)+1)
      case measure=>omega
      case rel=>exact⟨i+1,acc+sh,by go_num,rfl,Nat.le_refl _,by omega,Hnn.out.1,⟨Hnn.out.2,Hq.out.symm⟩,hB.out⟩
   ·have d1:decide ((i:Int)<(l.length:Int))=false:=by simp;omega
    have hq:fC l=(0,0):=by rw[←hI.out.2];exact wB l i acc (by omega)
    go_wp2_with fail
    go_ret2;exact⟨by rw[hq];rfl,hB.out⟩
 ·have hm:min (l.length:Int) 9=9:=by omega
  have hcp:(9:Int)≤(cap:Int):=by omega
  go_enter Tryz.func121,Tryz.ntmps121
  go_wp2_with fail
  clear hm
  go_loopg [4,13] 12 (fun g s4 s13 wr=>∃ (i:Nat) (acc:Int),s13=.int .i64 i∧s4=.int .i64 acc∧9-i+1≤g∧i≤9∧0≤acc∧Hid (acc<128 ^ i∧dK (9-i) i acc (l.drop i)=fC l)∧Hid (Below w.heap.size w wr))
  case atStart=>exact⟨0,0,rfl,rfl,by omega,by omega,by omega,⟨by simp,by simp[fC]⟩,Below.refl _ _⟩
  case round=>
   obtain⟨i,acc,rfl,rfl,hg,hi,ha0,hI,hB⟩:=hrel
   by_cases hlt:i<9
   ·have hil:i<l.length:=by omega
    have d1:decide ((i:Int)<(9:Int))=true:=by simp;omega
    have hii:(i:Int)<(9:Int):=by omega
    have hw:IntKind.i64.wrap ((i:Int)+1)=(i:Int)+1:=by rw[IntKind.wrap_i64];omega
    have hw7:IntKind.i64.wrap (7*(i:Int))=7*(i:Int):=by rw[IntKind.wrap_i64];omega
    have hc:=Hr.out i (.int .u8 l[i]) (by simp[aI,hil])
    have hc':=aA hB.out hc (aC hc);have hx:=Hv.out l[i] (List.getElem_mem hil);have HF:Hid (fC l=if l[i]=0∧0<i then (0,0)else if l[i]<128 then (acc+l[i] % 128*128 ^ i,i+1)else dK (9-(i+1)) (i+1) (acc+l[i] % 128*128 ^ i) (l.drop (i+1))):=by
     show _=_;rw[←hI.out.2];exact tJ l i acc hil (by omega)
    generalize l[i]=c at hc hc' hx HF;have hs0:=aBf i (by omega) (c % 128) (by omega) (by omega)
    have hs1:wrap64 (c % 128*2 ^ (7*i))=c % 128*128 ^ i:=by have:=hs0;rw[IntKind.wrap_i64]at this;unfold wrap64;exact this
    have hs2:=aEi i (by omega) acc (c % 128) ha0 hI.out.1 (by omega) (by omega)
    have hnn:0≤acc+c % 128*128 ^ i∧acc+c % 128*128 ^ i<128 ^ (i+1):=by
     have h1:(0:Int)<128 ^ i:=Int.pow_pos (by omega)
     have h2:=hI.out.1;rw[Int.pow_succ];generalize (128:Int) ^ i=X at h1 h2;have h3:0≤c % 128*X:=Int.mul_nonneg (by omega) (by omega)
     have h4:c % 128*X≤127*X:=Int.mul_le_mul_of_nonneg_right (by omega) (by omega)
     omega
    have Hnn:=aB hnn;clear hnn hc;generalize hsh:c % 128*128 ^ i=sh at hs0 hs1 hs2 HF Hnn;have Hsh:=aB hsh;have Hs2:=aB hs2;clear hsh
    by_cases hc0:c=0∧0<i
    ·have hq:fC l=(0,0):=by rw[HF.out,if_pos hc0]
     have Hq:=aB hq;obtain⟨rfl,hi0⟩:=hc0;clear hq;have d2:decide (0<(i:Int))=true:=by rw[decide_eq_true_eq];omega
     go_wp2_with fail
     go_ret2;exact⟨by rw[Hq.out];rfl,hB.out⟩
    ·by_cases hcs:c<128
     ·have d3:decide (c<128)=true:=by simpa using hcs
      have hq:=HF.out;rw[if_neg hc0,if_pos hcs]at hq;have Hq:=aB hq;clear hq
      by_cases hz:c=0
      ·subst hz;obtain rfl:i=0:=by omega
       simp only[Nat.add_zero]at hc';have hs3:=Hs2.out;obtain rfl:sh=0:=by have:=Hsh.out;simp at this;omega
       go_wp2_with fail
       go_ret2;exact⟨by rw[Hq.out];simp,hB.out⟩
      ·have d4:(c==0)=false:=by rw[beq_eq_false_iff_ne];exact hz
       go_wp2_with fail
       go_ret2;exact⟨by rw[Hq.out];simp,hB.out⟩
     ·have d3:decide (c<128)=false:=by simpa using hcs
      have d4:(c==0)=false:=by rw[beq_eq_false_iff_ne];omega
      have hq:=HF.out;rw[if_neg hc0,if_neg hcs]at hq;have Hq:=aB hq;clear hq
      go_wp2_with fail
      go_roundg (9-(i+1)+1)
      case measure=>omega
      case rel=>exact⟨i+1,acc+sh,by go_num,rfl,Nat.le_refl _,by omega,Hnn.out.1,⟨Hnn.out.2,Hq.out.symm⟩,hB.out⟩
   ·have d1:decide ((i:Int)<(9:Int))=false:=by simp;omega
    have hq:fC l=(0,0):=by rw[←hI.out.2];exact wB l i acc (by omega)
    go_wp2_with fail
    go_ret2;exact⟨by rw[hq];rfl,hB.out⟩
theorem kI:∀ (k:Nat) (m:Int),0≤m→m<128 ^ (k+1)→eK (k+1) m=eK k m
 | 0,m,h0,h1=>by
  simp at h1;show(if 127<m then (m % 128+128)::eK 0 (m / 128)else [m])=[m];rw[if_neg (by omega)]
 | k+1,m,h0,h1=>by
  rw[eK]
  by_cases h:127<m
  ·rw[if_pos h,kI k (m / 128) (by omega) (by rw[Int.pow_succ]at h1;omega),eK,if_pos h]
  ·rw[if_neg h,eK,if_neg h]
theorem tK(rest:List Int):∀ (k:Nat) (m:Int) (i:Nat) (acc:Int) (f:Nat),0≤m→m<128 ^ (k+1)→k+1≤f→(i=0∨0<m)→dK f i acc (eK k m++rest)=(acc+m*128 ^ i,i+(eK k m).length)
 | 0,m,i,acc,f,h0,h1,hf,hi=>by
  obtain⟨f',rfl⟩:∃ f',f=f'+1:=⟨f-1,by omega⟩
  simp at h1;simp only[eK,List.cons_append,List.nil_append];rw[dK,if_neg (by omega),if_pos h1,show m % 128=m by omega]
  rfl
 | k+1,m,i,acc,f,h0,h1,hf,hi=>by
  obtain⟨f',rfl⟩:∃ f',f=f'+1:=⟨f-1,by omega⟩
  rw[eK]
  by_cases h:127<m
  ·rw[if_pos h,List.cons_append,dK,if_neg (by omega),if_neg (by omega)]
   rw[tK rest k (m / 128) (i+1) _ f' (by omega) (by rw[Int.pow_succ]at h1;omega) (by omega) (.inr (by omega))]
   have e1:(m % 128+128) % 128=m % 128:=by omega
   rw[e1,Int.pow_succ];have e2:m=m / 128*128+m % 128:=by omega
   refine Prod.ext ?_ (by simp;omega)
   simp only;generalize (128:Int) ^ i=X;have:m*X=(m / 128*128+m % 128)*X:=by rw[←e2]
   rw[this,Int.add_mul,Int.mul_assoc (m / 128) 128 X,Int.mul_comm 128 X];omega
  ·rw[if_neg h];simp only[List.cons_append,List.nil_append];rw[dK,if_neg (by omega),if_pos (by omega),show m % 128=m by omega]
   rfl
theorem aCy(n:Int)(rest:List Int)(h:0≤n∧n≤9223372036854775807):fC (aJ n++rest)=(n,(aJ n).length):=by
 unfold fC aJ;rw[kI 8 n h.1 (by simp;omega),tK rest 8 n 0 0 9 h.1 (by simp;omega) (by omega) (.inl rfl)]
 simp
structure RdP(w:World)(rb g:Nat)(l:List Int)(flt:Bool):Prop where
 cell:∃ off cap,w.cell? ⟨rb,0,none⟩=some (.slice (some ⟨g,off,none⟩) l.length cap)∧l.length≤cap∧RowAt w g off (aI l)
 flt:w.cell? ⟨rb,1,none⟩=some (.bool flt)
 room:Room w rb 2
 ne:g≠rb
 bytes:∀ c∈l,0≤c∧c<256
 len:l.length≤1000000000000000
 glt:g<w.heap.size
def aL(low high:Int)(l:List Int)(flt:Bool):Int×List Int×Bool:=
 if flt=true∨(fC l).2=0∨(fC l).1<low∨high<(fC l).1 then (0,l,true)else ((fC l).1,l.drop (fC l).2,false)
theorem tL:∀ (f i:Nat) (acc:Int) (l:List Int),(dK f i acc l).2=0∨(i<(dK f i acc l).2∧(dK f i acc l).2≤i+l.length)
 | 0,i,acc,l=>by cases l<;>simp[dK]
 | f+1,i,acc,[]=>by simp[dK]
 | f+1,i,acc,c::l=>by
  rw[dK]
  split
  ·simp
  ·split
   ·simp
   ·rcases tL f (i+1) (acc+c % 128*128 ^ i) l with h|h
    ·exact .inl h
    ·refine .inr ?_;simp only[List.length_cons];omega
theorem aCz(l:List Int):(fC l).2≤l.length:=by
 rcases tL 9 0 0 l with h|h
 ·unfold fC;omega
 ·unfold fC;omega
theorem RdP.next{w w1:World}{rb g:Nat}{l l':List Int}{flt:Bool}(h:RdP w rb g l flt)(hm:Room w1 rb 2)(hf:w1.cell? ⟨rb,1,none⟩=some (.bool flt))(off' cap':Nat)(hc:l'.length≤cap')(hr:RowAt w1 g off' (aI l'))(hsub:∀ c∈l',c∈l)(hl:l'.length≤l.length)(hgl:g<w1.heap.size) :
  RdP (w1.setCell ⟨rb,0,none⟩ (.slice (some ⟨g,off',none⟩) l'.length cap')) rb g l' flt:=by
 have hne:=h.ne;refine⟨⟨off',cap',World.cell?_setCell_same' _ _ _ (hm 0 (by omega)).1,hc,?_⟩,(World.cell?_setCell_other _ _ _ _ (by simp)).trans hf,hm.setCell _ _,h.ne,fun c hc=>h.bytes c (hsub c hc),by have:=h.len;omega,by simpa [World.setCell]using hgl⟩
 exact hr.setCell _ _ (by intro j _ hc;simp only[Addr.mk.injEq]at hc;exact hne hc.1.symm)
theorem RdP.fault{w w1:World}{rb g:Nat}{l:List Int}{flt:Bool}(h:RdP w rb g l flt)(hb:Below w.heap.size w w1):RdP (w1.setCell ⟨rb,1,none⟩ (.bool true)) rb g l true:=by
 obtain⟨off,cap,hc,hlc,hr⟩:=h.cell;have hrl:=aC hc;have hne:=h.ne;have hm:=h.room.below hb hrl;refine⟨⟨off,cap,(World.cell?_setCell_other _ _ _ _ (by simp)).trans (aA hb hc hrl),hlc,?_⟩,World.cell?_setCell_same' _ _ _ (hm 1 (by omega)).1,hm.setCell _ _,h.ne,h.bytes,h.len,by have:=h.glt;have:=hb.size;simp[World.setCell];omega⟩
 refine RowAt.setCell (fun j v hv=>aA hb (hr j v hv) (aC (hr j v hv))) _ _ (by intro j _ hc;simp only[Addr.mk.injEq]at hc;exact hne hc.1.symm)
theorem cN(rb g:Nat)(l:List Int)(flt:Bool)(low high:Int)(w:World)(h:RdP w rb g l flt) :
  Calls Tryz.prog 104 #[.pointer (some ⟨rb,0,none⟩),.int .i64 low,.int .i64 high] w fun e w'=>e=.returned (.int .i64 (aL low high l flt).1)∧Only (·=rb) w w'∧RdP w' rb g (aL low high l flt).2.1 (aL low high l flt).2.2:=by
 obtain⟨off,cap,hc,hlc,hrow⟩:=h.cell;have hf:=h.flt;have hlen:=h.len;have hrl:=aC hc;have H:=aB h;have Hrow:=aB hrow;have HN:=aB (aFn g off cap l w hrow (by omega) h.bytes hlc)
 have hsz:=aCz l;have hz0:=(h.room 0 (by omega)).2
 have hz1:=(h.room 1 (by omega)).2
 have HF:Hid (aL low high l flt=if flt=true∨(fC l).2=0∨(fC l).1<low∨high<(fC l).1 then (0,l,true)else ((fC l).1,l.drop (fC l).2,false)):=by show _=_;rfl
 clear h hrow
 go_enter Tryz.func104,Tryz.ntmps104
 go_wp2_with fail
 refine HN.out.mono ?_;rintro e w1 ⟨rfl,hb1⟩;have c1:=aA hb1 hc hrl;have f1:=aA hb1 hf hrl;have hm1:=H.out.room.below hb1 hrl;have y0:=(hm1 0 (by omega)).2
 have y1:=(hm1 1 (by omega)).2
 generalize hnr:fC l=nr at HF hsz ⊢;obtain⟨n,sz⟩:=nr;simp only at HF hsz ⊢;have HB1:=aB hb1;have Hm1:=aB hm1;clear hb1 hc hf HN hz0 hz1 hm1;have hsum:flt=true∨(flt=false∧(sz=0∨(sz≠0∧(n<low∨(¬n<low∧(high<n∨¬high<n)))))):=by
  rcases flt with _|_
  ·refine .inr ⟨rfl,?_⟩;rcases Nat.eq_zero_or_pos sz with h|h
   ·exact .inl h
   ·refine .inr ⟨by omega,?_⟩
    omega
  ·exact .inl rfl
 have HBad:Hid ((flt=true∨sz=0∨n<low∨high<n)→aL low high l flt=(0,l,true)):=fun hb=>by rw[HF.out,if_pos hb]
 have HWf:Hid (Only (·=rb) w (w1.setCell ⟨rb,1,none⟩ (.bool true))):=(Only.new (S:=(·=rb)) HB1.out).setCell (p:=⟨rb,1,none⟩) (show rb=rb from rfl) _
 rcases hsum with rfl|⟨rfl,hz|⟨hz,hnl|⟨hnl,hnh|hnh⟩⟩⟩
 ·go_wp2_with fail
  go_ret;rw[HBad.out (by simp)]
  exact⟨rfl,HWf.out,H.out.fault HB1.out⟩
 ·have d1:((sz:Int)==0)=true:=by rw[beq_iff_eq];omega
  go_wp2_with fail
  go_ret;rw[HBad.out (.inr (.inl hz))];exact⟨rfl,HWf.out,H.out.fault HB1.out⟩
 ·have d1:((sz:Int)==0)=false:=by rw[beq_eq_false_iff_ne];omega
  have d2:decide (n<low)=true:=by simpa using hnl
  go_wp2_with fail
  go_ret;rw[HBad.out (.inr (.inr (.inl hnl)))];exact⟨rfl,HWf.out,H.out.fault HB1.out⟩
 ·have d1:((sz:Int)==0)=false:=by rw[beq_eq_false_iff_ne];omega
  have d2:decide (n<low)=false:=by simpa using hnl
  have d3:decide (high<n)=true:=by simpa using hnh
  go_wp2_with fail
  go_ret;rw[HBad.out (.inr (.inr (.inr hnh)))];exact⟨rfl,HWf.out,H.out.fault HB1.out⟩
 ·have d1:((sz:Int)==0)=false:=by rw[beq_eq_false_iff_ne];omega
  have d2:decide (n<low)=false:=by simpa using hnl
  have d3:decide (high<n)=false:=by simpa using hnh
  have hsi:(sz:Int)≤(l.length:Int):=by omega
  have hok:aL low high l false=(n,l.drop sz,false):=by
   rw[HF.out,if_neg];rintro (h|h|h|h)
   ·cases h
   ·exact hz h
   ·exact hnl h
   ·exact hnh h
  have Hok:=aB hok;have Hf1:=aB f1;have hdl:(l.drop sz).length=l.length-sz:=by simp
  have Hdl:=aB hdl;clear hok hdl
  go_wp2_with fail
  all_goals
   go_ret;rw[Hok.out];refine⟨rfl,(Only.new (S:=(·=rb)) HB1.out).setCell (p:=⟨rb,0,none⟩) (show rb=rb from rfl) _,?_⟩
   have hrow1:RowAt w1 g (off+sz) (aI (l.drop sz)):=by
    intro j v hv;have h1:=Hrow.out (sz+j) v (by rw[←hv];simp[aI])
    have h2:=aA HB1.out h1 (aC h1);rw[←Nat.add_assoc]at h2;exact h2
   rw[←Hdl.out]
   first
    | exact H.out.next Hm1.out Hf1.out _ _ (by rw[Hdl.out];omega) hrow1 (fun c hc=>List.mem_of_mem_drop hc) (by rw[Hdl.out];omega) (by have:=H.out.glt;have:=HB1.out.size;omega)
    | (refine H.out.next Hm1.out Hf1.out _ _ (by rw[Hdl.out];omega) ?_ (fun c hc=>List.mem_of_mem_drop hc) (by rw[Hdl.out];omega) (by have:=H.out.glt;have:=HB1.out.size;omega)
       have h0:l.drop sz=[]:=List.eq_nil_of_length_eq_zero (by rw[Hdl.out];omega)
       rw[h0];intro j v hv;simp[aI]at hv)
def aH(l:List Int):ByteArray:=⟨(l.map fun b=>UInt8.ofNat b.toNat).toArray⟩
theorem aE5{a b:List Int}(ha:∀ c∈a,0≤c∧c<256)(hb:∀ c∈b,0≤c∧c<256)(h:aH a=aH b):a=b:=by
 unfold aH at h;have h1:(a.map fun b=>UInt8.ofNat b.toNat)=(b.map fun b=>UInt8.ofNat b.toNat):=by
  have:=congrArg (fun x:ByteArray=>x.data.toList) h
  simpa using this
 clear h
 induction a generalizing b with
 | nil=>cases b with
  | nil=>rfl
  | cons y b=>simp at h1
 | cons x a ih=>cases b with
  | nil=>simp at h1
  | cons y b=>
   simp only[List.map_cons,List.cons.injEq]at h1;have hx:=ha x (List.mem_cons_self ..);have hy:=hb y (List.mem_cons_self ..);have e:x=y:=by
    have:=congrArg UInt8.toNat h1.1;have e1:(UInt8.ofNat x.toNat).toNat=x.toNat % 256:=UInt8.toNat_ofNat';have e2:(UInt8.ofNat y.toNat).toNat=y.toNat % 256:=UInt8.toNat_ofNat';rw[e1,e2]at this;omega
   rw[e,ih (fun c hc=>ha c (List.mem_cons_of_mem _ hc)) (fun c hc=>hb c (List.mem_cons_of_mem _ hc)) h1.2]
theorem aE6{a b:List Int}(ha:∀ c∈a,0≤c∧c<256)(hb:∀ c∈b,0≤c∧c<256)(h:¬a=b):((aH a).toList==(aH b).toList)=false:=by
 rw[beq_eq_false_iff_ne];intro hc;rw[ByteArray.toList_eq,ByteArray.toList_eq]at hc;refine h (aE5 ha hb ?_);exact ByteArray.ext (Array.ext' hc)
theorem iS{w:World}{g off cap:Nat}{l:List Int}(h:RowAt w g off (aI l))(hb:∀ b∈l,0≤b∧b<256):(convert 56 9 (.slice (some ⟨g,off,none⟩) l.length cap)).run Tryz.prog w=.ok (.string (aH l)) w:=by
 have:=run_convert_bytes_back (P:=Tryz.prog) w 56 9 5 ⟨g,off,none⟩ cap (l.map fun b=>UInt8.ofNat b.toNat) Tryz.underlying56 Tryz.underlying5 Tryz.underlying9 (by
  intro j hj;have hj':j<l.length:=by simpa using hj
  have hc:=h j (.int .u8 l[j]) (by simp[aI,hj'])
  have hx:=hb l[j] (List.getElem_mem hj');rw[Addr.add_lit,hc];simp only[List.getElem_map];congr 2;have h8:(UInt8.ofNat l[j].toNat).toNat=l[j].toNat % 256:=UInt8.toNat_ofNat';rw[h8];omega)
 simpa [aH]using this
theorem aAe(g1 o1 c1 g2 o2 c2:Nat)(l l2:List Int)(w:World)(h1:RowAt w g1 o1 (aI l))(h2:RowAt w g2 o2 (aI l2))(hb:∀ b∈l,0≤b∧b<256)(hb2:∀ b∈l2,0≤b∧b<256) :
  Calls Tryz.prog 103 #[.slice (some ⟨g1,o1,none⟩) l.length c1,.slice (some ⟨g2,o2,none⟩) l2.length c2] w fun e w'=>e=.returned (.bool (decide (l=l2)))∧Below w.heap.size w w':=by
 have k1:=iS (cap:=c1) h1 hb;have k2:=iS (cap:=c2) h2 hb2;have hd:decide (l=l2)=((aH l).toList==(aH l2).toList):=by
  by_cases h:l=l2
  ·subst h;simp
  ·rw[aE6 hb hb2 h];simp[h]
 rw[hd];clear h1 h2 hd
 go_enter Tryz.func103,Tryz.ntmps103
 go_wp2
 go_ret;exact⟨rfl,Below.refl _ _⟩
def aU(hd l:List Int):Int:=if l.length<8∨l.take 4≠hd then 4 else if l.drop (l.length-4)≠fE (l.take (l.length-4))then 5 else 0
def aK(l:List Int):List Int:=(l.take (l.length-4)).drop 4
theorem oK(hd body:List Int)(hhl:hd.length=4):aK ((hd++body)++fE (hd++body))=body:=by
 unfold aK;rw[List.length_append,jB,Nat.add_sub_cancel,List.take_left,List.drop_left' hhl]
theorem yJ(hd body:List Int)(hhl:hd.length=4):aU hd ((hd++body)++fE (hd++body))=0:=by
 unfold aU;rw[if_neg,if_neg]
 ·rw[List.length_append,jB,Nat.add_sub_cancel,List.take_left,List.drop_left];simp
 ·rintro (h|h)
  ·simp[jB,hhl]at h;omega
  ·apply h
   rw[List.append_assoc,List.take_left' hhl]
theorem sV(sa:Option Addr)(n cap:Nat)(s:ByteArray)(w:World)(hs:s.size=4)(hn:n<8) :
  Calls Tryz.prog 64 #[.string s,.slice sa n cap] w fun e w'=>e=.returned (.tuple #[.pointer none,.int .i64 4])∧Below w.heap.size w w':=by
 have hw1:IntKind.i64.wrap ((n:Int)-4)=(n:Int)-4:=by rw[IntKind.wrap_i64];omega
 have dd1:decide ((n:Int)-4<4)=true:=by simp;omega
 go_enter Tryz.func64,Tryz.ntmps64
 go_wp2_with fail
 go_ret2;exact⟨rfl,Below.refl _ _⟩
theorem aE7(g off cap:Nat)(hd l:List Int)(w:World)(hr:RowAt w g off (aI l))(hcap:l.length≤cap)(hb:∀ b∈l,0≤b∧b<256)(hl:l.length≤1000000000000000)(s:ByteArray)(hs:s=aH hd)(hhl:hd.length=4)(hhb:∀ b∈hd,0≤b∧b<256)(hgl:g<w.heap.size) :
  Calls Tryz.prog 64 #[.string s,.slice (some ⟨g,off,none⟩) l.length cap] w fun e w'=>∃ p,e=.returned (.tuple #[.pointer p,.int .i64 (aU hd l)])∧Below w.heap.size w w'∧(aU hd l≠0→p=none)∧(aU hd l=0→∃ rb,p=some ⟨rb,0,none⟩∧w.heap.size≤rb∧RdP w' rb g (aK l) false):=by
 have hss:s.size=4:=by rw[hs];simp[aH,ByteArray.size,hhl]
 by_cases h8:l.length<8
 ·have hE:aU hd l=4:=by unfold aU;rw[if_pos (.inl h8)]
  rw[hE];refine(sV _ _ _ s w hss h8).mono ?_;rintro e w' ⟨rfl,hb⟩;exact⟨none,rfl,hb,fun _=>rfl,fun h=>by cases h⟩
 obtain⟨n,hn⟩:∃ n,l.length=n+8:=⟨l.length-8,by omega⟩
 have hrow4:RowAt w g off (aI (l.take 4)):=by
  intro j v hv;refine hr j v ?_;have hj:=(List.getElem?_eq_some_iff.1 hv).1;simp only[aI,List.length_map,List.length_take]at hj;rw[←hv];simp only[aI,List.getElem?_map,List.getElem?_take];rw[if_pos (by omega)]
 have hl4:(l.take 4).length=4:=by simp;omega
 have k1:=iS (cap:=cap) hrow4 (fun b hb'=>hb b (List.mem_of_mem_take hb'));rw[hl4]at k1;have hw1:IntKind.i64.wrap ((n:Int)+8-4)=(n:Int)+4:=by rw[IntKind.wrap_i64];omega
 have dd1:decide ((n:Int)+4<4)=false:=by simp;omega
 have hc1:(n:Int)+8≤(cap:Int):=by omega
 have hc2:(n:Int)+4≤(cap:Int):=by omega
 have hc4:(4:Int)≤(cap:Int):=by omega
 rw[hn]
 by_cases h4:l.take 4=hd
 rotate_left
 ·have hE:aU hd l=4:=by unfold aU;rw[if_pos (.inr h4)]
  have hbe:((aH (l.take 4)).toList==s.toList)=false:=by rw[hs];exact aE6 (fun b hb'=>hb b (List.mem_of_mem_take hb')) hhb h4
  rw[hE];generalize aH (l.take 4)=s4 at k1 hbe;clear hE h4 hrow4 hr hs
  go_enter Tryz.func64,Tryz.ntmps64
  go_wp2_with fail
  go_ret2;exact⟨none,rfl,Below.refl _ _,fun _=>rfl,fun h=>by cases h⟩
 have hbe:aH (l.take 4)=s:=by rw[hs,h4]
 rw[hbe]at k1;obtain⟨hd',hhd⟩:∃ hd',hd'=l.take (l.length-4):=⟨_,rfl⟩;have hdl:hd'.length=n+4:=by rw[hhd];simp;omega
 have hdb:∀ b∈hd',0≤b∧b<256:=fun b hb'=>hb b (by rw[hhd]at hb';exact List.mem_of_mem_take hb')
 have hrow1:RowAt w g off (aI hd'):=by
  intro j v hv;refine hr j v ?_;have hj:=(List.getElem?_eq_some_iff.1 hv).1;simp only[aI,List.length_map]at hj;rw[←hv,hhd];simp only[aI,List.getElem?_map,List.getElem?_take];rw[if_pos (by omega)]
 obtain⟨tl,htl⟩:∃ tl,tl=l.drop (l.length-4):=⟨_,rfl⟩;have htll:tl.length=4:=by rw[htl];simp;omega
 have htb:∀ b∈tl,0≤b∧b<256:=fun b hb'=>hb b (by rw[htl]at hb';exact List.mem_of_mem_drop hb')
 have hrowS:RowAt w g (off+(n+4)) (aI tl):=by
  intro j v hv;have:=hr (n+4+j) v (by rw[←hv,htl];simp only[aI,List.getElem?_map,List.getElem?_drop];rw[show l.length-4+j=n+4+j by omega])
  rw[←Nat.add_assoc]at this;exact this
 have hrowB:RowAt w g (off+4) (aI (aK l)):=by
  intro j v hv;have:=hrow1 (4+j) v (by rw[←hv,hhd];simp only[aK,aI,List.getElem?_map,List.getElem?_drop])
  rw[←Nat.add_assoc]at this;exact this
 have hol:(aK l).length=n:=by simp[aK];omega
 have HOb:Hid (∀ b∈aK l,0≤b∧b<256):=fun b hb'=>hb b (List.mem_of_mem_take (List.mem_of_mem_drop hb'));have HE:Hid (aU hd l=if tl=fE hd' then 0 else 5):=by
  show _=_;unfold aU;rw[if_neg (fun h=>h.elim h8 (fun h=>h h4)),←htl,←hhd]
  by_cases h:tl=fE hd'
  ·rw[if_neg (by simpa using h),if_pos h]
  ·rw[if_pos h,if_neg h]
 have HS:=aB (aBo w g off cap hd' hrow1 (by omega) hdb)
 have HrowS:=aB hrowS;have HrowB:=aB hrowB;have Htb:=aB htb;have Hhd:=aB hhd;have Htl:=aB htl;clear hr hrow4 hrow1 hrowS hrowB hb hhd hdb hs htb htl hbe h4
 go_enter Tryz.func64,Tryz.ntmps64
 go_wp2_with fail
 have HS2:=HS.out;rw[hdl]at HS2;refine HS2.mono ?_;rintro e w1 ⟨rfl,hb1⟩;have hz1:=hb1.size;have HsB:Hid (fE hd'=[eL hd' / 16777216 % 256,eL hd' / 65536 % 256,eL hd' / 256 % 256,eL hd' % 256]):=by show _=_;rfl
 have HsBb:=aB (jC hd');generalize eL hd' / 16777216 % 256=z0 at HsB ⊢;generalize eL hd' / 65536 % 256=z1 at HsB ⊢;generalize eL hd' / 256 % 256=z2 at HsB ⊢;generalize eL hd' % 256=z3 at HsB ⊢;have HB1:=aB hb1;clear hb1 HS HS2 k1
 go_wp2_with fail
 obtain⟨W2,hW2⟩:∃ W2,W2=w1.alloc (.cells #[.int .u8 z0,.int .u8 z1,.int .u8 z2,.int .u8 z3] 157):=⟨_,rfl⟩;have hb2:Below w1.heap.size w1 W2:=by rw[hW2];exact(Below.refl _ _).alloc (Nat.le_refl _) _
 have hz2:W2.heap.size=w1.heap.size+1:=by rw[hW2];simp
 have HBW:Hid (Below w.heap.size w W2):=HB1.out.trans (hb2.mono hz1);have HEq:Hid (∀ c1,Calls Tryz.prog 103 #[.slice (some ⟨g,off+(n+4),none⟩) 4 c1,.slice (some ⟨w1.heap.size,0,none⟩) 4 4] W2.drew fun e w'=>e=.returned (.bool (decide (tl=fE hd')))∧Below W2.heap.size W2 w'):=by
  intro c1;have h1:RowAt W2.drew g (off+(n+4)) (aI tl):=by
   intro j v hv;have:=HrowS.out j v hv;exact aA HBW.out this (aC this)
  have h2:RowAt W2.drew w1.heap.size 0 (aI (fE hd')):=by
   rw[HsB.out];intro j v hv;rw[hW2,Nat.zero_add]
   match j,hv with
   | 0,hv=>simp[aI]at hv;subst hv;simp[go_sem]
   | 1,hv=>simp[aI]at hv;subst hv;simp[go_sem]
   | 2,hv=>simp[aI]at hv;subst hv;simp[go_sem]
   | 3,hv=>simp[aI]at hv;subst hv;simp[go_sem]
   | j+4,hv=>simp[aI]at hv
  have:=aAe g (off+(n+4)) c1 w1.heap.size 0 4 tl (fE hd') W2.drew h1 h2 Htb.out HsBb.out;rw[htll]at this;refine this.mono ?_;rintro e w' ⟨rfl,hb⟩;exact⟨rfl,(Below.refl _ _).drew.trans hb⟩
 rw[←hW2];have h84:n+8-(n+4)=4:=by omega
 have hc3:(n:Int)+4≤(n:Int)+8:=by omega
 have hcne:¬cap=n+4:=by omega
 have hc00:(0:Int)≤(n:Int)+4:=by omega
 have hcN:n+4≤n+8:=by omega
 have hcN2:n+8≤cap:=by omega
 have hcN3:n+4≤cap:=by omega
 have htn:((n:Int)+4).toNat=n+4:=by omega
 generalize hdec:decide (tl=fE hd')=dec at HEq;have Hdec:=aB hdec;clear hW2 hb2 hdec
 go_region_held3 (fun _=>True)
  (exact trivial)
  (first|(go_at_call 103;refine(HEq.out _).mono ?_;rintro e' w3 ⟨rfl,hb3⟩))
 have HB3:Hid (Below w.heap.size w w3):=HBW.out.trans (hb3.mono (by omega))
 have hz3:=hb3.size;clear hb3 HEq;rcases dec with _|_
 ·have hE:aU hd l=5:=by rw[HE.out,if_neg (by simpa using Hdec.out)]
  go_wp2_with fail
  go_ret2;exact⟨none,by rw[hE];rfl,HB3.out,fun _=>rfl,fun h=>by rw[hE]at h;cases h⟩
 ·have hE:aU hd l=0:=by rw[HE.out,if_pos (by simpa using Hdec.out)]
  go_wp2_with fail
  go_ret2;obtain⟨W4,hW4⟩:∃ W4,W4=w3.alloc (.cells #[.slice (some ⟨g,off+4,none⟩) n (cap-4),.bool false] 161):=⟨_,rfl⟩;have hb4:Below w3.heap.size w3 W4:=by rw[hW4];exact(Below.refl _ _).alloc (Nat.le_refl _) _
  have hz4:W4.heap.size=w3.heap.size+1:=by rw[hW4];simp
  have hBf:Below w.heap.size w W4:=HB3.out.trans (hb4.mono (by omega))
  have q0:W4.cell? ⟨w3.heap.size,0,none⟩=some (.slice (some ⟨g,off+4,none⟩) n (cap-4)):=by rw[hW4];simp[go_sem]
  have q1:W4.cell? ⟨w3.heap.size,1,none⟩=some (.bool false):=by rw[hW4];simp[go_sem]
  have qr:Room W4 w3.heap.size 2:=by
   rw[hW4];intro j hj;have:j=0∨j=1:=by omega
   rcases this with rfl|rfl<;>simp[go_sem]
  rw[←hW4];refine⟨some ⟨w3.heap.size,0,none⟩,by rw[hE];rfl,hBf,fun h=>absurd hE h,fun _=>⟨w3.heap.size,rfl,by omega,⟨⟨off+4,cap-4,by rw[hol];exact q0,by omega,?_⟩,q1,qr,by omega,HOb.out,by omega,by omega⟩⟩⟩
  intro j v hv;have:=HrowB.out j v hv;exact aA hBf this (aC this)
end Go.Proofs.YtndlmgocldckfaaGreat
