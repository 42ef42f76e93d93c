import Derived.Test.YtndlmgocldckfaaGreatG38
import Derived.Test.YtndlmgocldckfaaGreatG04
import Derived.Test.YtndlmgocldckfaaGreatG25
import Derived.Test.YtndlmgocldckfaaGreatG36
import Derived.Test.YtndlmgocldckfaaGreatG30
import Derived.Test.YtndlmgocldckfaaGreatG26
import Derived.Test.YtndlmgocldckfaaGreatG31
import Derived.Test.YtndlmgocldckfaaGreatTrE
namespace Go.Proofs.YtndlmgocldckfaaGreat
open Go.RowKit
set_option linter.unusedVariables false
set_option linter.unusedSimpArgs false
set_option maxRecDepth 100000
set_option maxHeartbeats 4000000
def jU(ents:Int)(ks:List (List Ins))(draws:List Int)(l:List Int):Int:=if (bE ents ks).isSome then 2 else if cO draws then jH ents.toNat ks.length draws.length l else 1
def nP(ents:Int)(ks:List (List Ins))(draws:List Int)(l:List Int):KS:=(gI ents.toNat ks.length draws.length (aK l)).2.1
theorem lY{ents:Int}{ks:List (List Ins)}(hk:bE ents ks=none):∃ E:Nat,ents=E∧(1≤E∧E≤8)∧1≤ks.length∧ks.length≤8:=by
 obtain⟨⟨h1,h2⟩,h3,h4⟩:=gK hk;exact⟨ents.toNat,by omega,by omega,h3,h4⟩
theorem sI(ents:Int)(v dv bv:Value)(w:World)(E:Int)(hE:E≠0)(hN:Calls Tryz.prog 26 #[.agg #[.int .i64 ents,v],dv] (w.alloc (.cells #[.int .i64 ents,v] 38)) fun e w'=>e=.returned (.tuple #[.pointer none,.int .i64 E])∧Below (w.heap.size+1) (w.alloc (.cells #[.int .i64 ents,v] 38)) w') :
  Calls Tryz.prog 31 #[.agg #[.int .i64 ents,v],dv,bv] w fun e w'=>e=.returned (.tuple #[.pointer none,.int .i64 E])∧Below w.heap.size w w':=by
 have d0:(E != 0)=true:=by simpa using hE
 have HN:=aB hN;clear hN hE
 go_enter Tryz.func31,Tryz.ntmps31
 go_wp2_with fail
 refine HN.out.mono ?_;rintro e w1 ⟨rfl,hb1⟩
 go_wp2_with fail
 go_ret2;exact⟨rfl,(aE _ _).trans (hb1.mono (by omega))⟩
theorem sJ(ents:Int)(v dv:Value)(s:ByteArray)(w:World)(E:Int)(hE:E≠0)(hN:Calls Tryz.prog 27 #[.agg #[.int .i64 ents,v],dv] (w.alloc (.cells #[.int .i64 ents,v] 38)) fun e w'=>e=.returned (.tuple #[.pointer none,.int .i64 E])∧Below (w.heap.size+1) (w.alloc (.cells #[.int .i64 ents,v] 38)) w') :
  Calls Tryz.prog 32 #[.agg #[.int .i64 ents,v],dv,.string s] w fun e w'=>e=.returned (.tuple #[.pointer none,.int .i64 E])∧Below w.heap.size w w':=by
 have d0:(E != 0)=true:=by simpa using hE
 have HN:=aB hN;clear hN hE
 go_enter Tryz.func32,Tryz.ntmps32
 go_wp2_with fail
 refine HN.out.mono ?_;rintro e w1 ⟨rfl,hb1⟩
 go_wp2_with fail
 go_ret2;exact⟨rfl,(aE _ _).trans (hb1.mono (by omega))⟩
theorem vB(ents:Int)(b off cap:Nat)(dv:Value)(ks:List (List Ins))(draws:List Int)(ba:Option Addr)(bcap:Nat)(l:List Int)(w:World)(hl:ks.length≤5864062014805)(hbw:b<w.heap.size)(hK:KindsAt w.heap.size w b off ks)(hd:IntsIn (·<w.heap.size) w dv draws)(hB:BytesV w ba bcap l) :
  Calls Tryz.prog 31 #[.agg #[.int .i64 ents,.slice (some ⟨b,off,none⟩) ks.length cap],dv,.slice ba l.length bcap] w fun e w'=>∃ p,e=.returned (.tuple #[.pointer p,.int .i64 (jU ents ks draws l)])∧Below w.heap.size w w'∧(jU ents ks draws l≠0→p=none) ∧
   (jU ents ks draws l=0→∃ kb qb mb ov R base,p=some ⟨kb,0,none⟩∧(w.heap.size≤base∧base≤w'.heap.size)∧(∀ x,bG kb qb mb ov x→base≤x)∧(∀ x,R x→base≤x)∧KerP R base w' kb qb mb ov ents ks draws (nP ents ks draws l)):=by
 have hbA:=aE w (.cells #[.int .i64 ents,.slice (some ⟨b,off,none⟩) ks.length cap] 38);have hsA:(w.alloc (.cells #[.int .i64 ents,.slice (some ⟨b,off,none⟩) ks.length cap] 38)).heap.size=w.heap.size+1:=by simp
 rcases hk:bE ents ks with _|p
 ·obtain⟨E,rfl,he,hk1,hk8⟩:=lY hk;rcases hD:cO draws with _|_
  ·have hr:jU (E:Int) ks draws l=1:=by simp[jU,hk,hD]
   rw[hr];have hV:KindsV (w.heap.size+1) (w.alloc (.cells #[.int .i64 (E:Int),.slice (some ⟨b,off,none⟩) ks.length cap] 38)) (.slice (some ⟨b,off,none⟩) ks.length cap) ks:=((show KindsV w.heap.size w _ ks from⟨hl,.inr (.inl ⟨b,off,cap,rfl,hbw,hK⟩)⟩).below hbA).mono (by omega)
   have hN:=rS (E:Int) (.slice (some ⟨b,off,none⟩) ks.length cap) dv ks draws (w.alloc (.cells #[.int .i64 (E:Int),.slice (some ⟨b,off,none⟩) ks.length cap] 38)) (by rw[hsA];exact hV) ((hd.only (Only.new (S:=fun _=>False) hbA) (by simp)).mono (fun x hx=>by rw[hsA];omega)) hk hD
   rw[hsA]at hN;refine(sI _ _ _ _ w 1 (by decide) hN).mono ?_
   rintro e w' ⟨rfl,hb⟩;exact⟨none,rfl,hb,fun _=>rfl,fun h=>by cases h⟩
  ·have hr:jU (E:Int) ks draws l=jH E ks.length draws.length l:=by simp[jU,hk,hD]
   have hs:nP (E:Int) ks draws l=(gI E ks.length draws.length (aK l)).2.1:=by simp[nP]
   rw[hr,hs];exact aDr E b off cap dv ks draws ba bcap l w hk8 hbw hK hd hk hD he (dW hD) hB
 ·have hr:jU ents ks draws l=2:=by simp[jU,hk]
  rw[hr];have hV:KindsV (w.heap.size+1) (w.alloc (.cells #[.int .i64 ents,.slice (some ⟨b,off,none⟩) ks.length cap] 38)) (.slice (some ⟨b,off,none⟩) ks.length cap) ks:=((show KindsV w.heap.size w _ ks from⟨hl,.inr (.inl ⟨b,off,cap,rfl,hbw,hK⟩)⟩).below hbA).mono (by omega)
  have hN:=kT (B:=0) ents (.slice (some ⟨b,off,none⟩) ks.length cap) dv ks (w.alloc (.cells #[.int .i64 ents,.slice (some ⟨b,off,none⟩) ks.length cap] 38)) (by rw[hsA];exact hV) p hk
  rw[hsA]at hN;refine(sI _ _ _ _ w 2 (by decide) hN).mono ?_
  rintro e w' ⟨rfl,hb⟩;exact⟨none,rfl,hb,fun _=>rfl,fun h=>by cases h⟩
theorem vC(ents:Int)(ka:Addr)(b off cap:Nat)(dv:Value)(ks:List (List Ins))(draws:List Int)(l:List Int)(w:World)(hka:0<ks.length→ka=⟨b,off,none⟩)(hl:ks.length≤5864062014805)(hbw:b<w.heap.size)(hK:KindsAt w.heap.size w b off ks)(hd:IntsX w.heap.size w dv draws)(hv:∀ c∈l,0≤c∧c<256)(hll:l.length≤1000000000) :
  Calls Tryz.prog 32 #[.agg #[.int .i64 ents,.slice (some ka) ks.length cap],dv,.string (aH l)] w fun e w'=>∃ p,e=.returned (.tuple #[.pointer p,.int .i64 (jU ents ks draws l)])∧Below w.heap.size w w'∧(jU ents ks draws l≠0→p=none) ∧
   (jU ents ks draws l=0→Fit ents ks draws (nP ents ks draws l)∧nB ents (nP ents ks draws l)∧bE ents ks=none∧cO draws=true∧∃ rb R,p=some ⟨rb,0,none⟩∧w.heap.size≤rb∧rb<w'.heap.size∧(∀ x,R x→w.heap.size≤x∧x<w'.heap.size∧x≠rb)∧RefK R w' rb ents ks draws (nP ents ks draws l).taken (nP ents ks draws l).clock (nP ents ks draws l).next (cY ents (nP ents ks draws l)) (nP ents ks draws l).q):=by
 rcases hk:bE ents ks with _|p
 ·obtain⟨E,rfl,he,hk1,hk8⟩:=lY hk;obtain rfl:=hka (by omega)
  have hbA:=aE w (.cells #[.int .i64 (E:Int),.slice (some ⟨b,off,none⟩) ks.length cap] 38);have hsA:(w.alloc (.cells #[.int .i64 (E:Int),.slice (some ⟨b,off,none⟩) ks.length cap] 38)).heap.size=w.heap.size+1:=by simp
  rcases hD:cO draws with _|_
  ·have hr:jU (E:Int) ks draws l=1:=by simp[jU,hk,hD]
   rw[hr];have hN:=nS (E:Int) b off cap dv ks draws (w.alloc (.cells #[.int .i64 (E:Int),.slice (some ⟨b,off,none⟩) ks.length cap] 38)) hl (by rw[hsA];omega) ((hK.below hbA hbw (Nat.le_refl _)).mono (by rw[hsA];omega)) ((hd.below hbA).mono (by rw[hsA];omega)) hk
   have hN':Calls Tryz.prog 27 #[.agg #[.int .i64 (E:Int),.slice (some ⟨b,off,none⟩) ks.length cap],dv] (w.alloc (.cells #[.int .i64 (E:Int),.slice (some ⟨b,off,none⟩) ks.length cap] 38)) fun e w'=>e=.returned (.tuple #[.pointer none,.int .i64 1])∧Below (w.heap.size+1) (w.alloc (.cells #[.int .i64 (E:Int),.slice (some ⟨b,off,none⟩) ks.length cap] 38)) w':=by
    refine hN.mono ?_;rintro e w' h;rw[hsA]at h;rcases h with⟨_,h1,h2⟩|⟨h1,_⟩
    ·exact⟨h1,h2⟩
    ·have:cO draws=true:=h1;rw[hD]at this;cases this
   refine(sJ _ _ _ _ w 1 (by decide) hN').mono ?_
   rintro e w' ⟨rfl,hb⟩;exact⟨none,rfl,hb,fun _=>rfl,fun h=>by cases h⟩
  ·have hr:jU (E:Int) ks draws l=jH E ks.length draws.length l:=by simp[jU,hk,hD]
   have hs:nP (E:Int) ks draws l=(gI E ks.length draws.length (aK l)).2.1:=by simp[nP]
   obtain⟨q1,q2⟩:=aF1 E ks draws l hk8 he (dW hD) hv;rw[hr,hs];refine(aDb E b off cap dv ks draws l w hk8 hbw hK hd hk hD he (dW hD) hv hll).mono ?_;rintro e w' ⟨hb,h⟩;rw[q1]at h;rcases h with⟨h0,rb,R,rfl,r1,r2,r3,r4⟩|⟨h0,rfl⟩
   ·obtain⟨s1,s2,s3⟩:=q2 h0;rw[s1]at r4 s2 s3;rw[h0];exact⟨some ⟨rb,0,none⟩,rfl,hb,fun h=>absurd rfl h,fun _=>⟨s2,s3,by first|rfl|exact hk,by first|rfl|exact hD,rb,R,rfl,r1,r2,r3,r4⟩⟩
   ·exact⟨none,rfl,hb,fun _=>rfl,fun h=>absurd h h0⟩
 ·have hr:jU ents ks draws l=2:=by simp[jU,hk]
  have hbA:=aE w (.cells #[.int .i64 ents,.slice (some ka) ks.length cap] 38);have hsA:(w.alloc (.cells #[.int .i64 ents,.slice (some ka) ks.length cap] 38)).heap.size=w.heap.size+1:=by simp
  rw[hr];have hV:KindsV (w.heap.size+1) (w.alloc (.cells #[.int .i64 ents,.slice (some ka) ks.length cap] 38)) (.slice (some ka) ks.length cap) ks:=((nR hka hl hbw hK).below hbA).mono (by omega)
  have hN:=lA ents (.slice (some ka) ks.length cap) dv ks (w.alloc (.cells #[.int .i64 ents,.slice (some ka) ks.length cap] 38)) (by rw[hsA];exact hV) p hk
  rw[hsA]at hN;refine(sJ _ _ _ _ w 2 (by decide) hN).mono ?_
  rintro e w' ⟨rfl,hb⟩;exact⟨none,rfl,hb,fun _=>rfl,fun h=>by cases h⟩
def LentZ(lo:Nat)(w:World)(ba:Option Addr)(bc:Nat)(l:List Int):Prop:=
 (ba=none∧bc=0∧l=[])∨∃ g,ba=some ⟨g,0,none⟩∧bc=l.length+8∧lo≤g∧g<w.heap.size∧RowAt w g 0 (iQ l)∧Room w g (l.length+8)
theorem LentZ.below{lo:Nat}{w w':World}{ba:Option Addr}{bc:Nat}{l:List Int}(h:LentZ lo w ba bc l)(hb:Below w.heap.size w w'):LentZ lo w' ba bc l:=by
 rcases h with h|⟨g,h1,h2,h3,h4,h5,h6⟩
 ·exact .inl h
 ·exact .inr ⟨g,h1,h2,h3,Nat.lt_of_lt_of_le h4 hb.size,h5.below hb h4,h6.below hb h4⟩
theorem LentZ.only{S:Nat→Prop}{lo:Nat}{w w':World}{ba:Option Addr}{bc:Nat}{l:List Int}(h:LentZ lo w ba bc l)(ho:Only S w w')(hS:∀ b,lo≤b→¬S b):LentZ lo w' ba bc l:=by
 rcases h with h|⟨g,h1,h2,h3,h4,h5,h6⟩
 ·exact .inl h
 ·exact .inr ⟨g,h1,h2,h3,Nat.lt_of_lt_of_le h4 ho.size,h5.only ho (hS g h3),h6.only ho (hS g h3)⟩
theorem LentZ.bytes{lo:Nat}{w:World}{ba:Option Addr}{bc:Nat}{l:List Int}(h:LentZ lo w ba bc l)(hv:∀ c∈l,0≤c∧c<256)(hl:l.length≤1000000000):BytesV w ba bc l:=by
 rcases h with⟨rfl,rfl,rfl⟩|⟨g,rfl,rfl,h3,h4,h5,h6⟩
 ·exact⟨by simp,by simp,by simp,fun h8=>by simp at h8⟩
 ·refine⟨by omega,by omega,hv,fun _=>⟨g,0,rfl,?_,h4⟩⟩
  intro j v hvj;have hj:j<l.length:=by have:=(List.getElem?_eq_some_iff.1 hvj).1;simpa [aI]using this
  refine h5 j v ?_;rw[nN l j hj]
  simpa [aI,hj]using hvj
theorem jV(l:List Int)(raw:Int)(w:World)(hl:l.length≤1000000000)(hv:∀ c∈l,0≤c∧c<256) :
  Calls Tryz.prog 30 #[.string (aH l),.int .i64 raw] w fun e w'=>∃ ba bc,e=.returned (.slice ba l.length bc)∧Below w.heap.size w w'∧LentZ w.heap.size w' ba bc l:=by
 by_cases hn:l=[]∧Int.tmod raw 2≠0
 ·obtain⟨rfl,hr⟩:=hn;refine(uL raw w hr).mono ?_;rintro e w' ⟨rfl,rfl⟩;exact⟨none,0,rfl,Below.refl _ _,.inl ⟨rfl,rfl,rfl⟩⟩
 ·refine(sB l raw w hl hv hn).mono ?_;rintro e w' ⟨g,h1,h2,rfl,hb,h3,h4⟩;exact⟨_,_,rfl,hb,.inr ⟨g,rfl,rfl,h1,h2,h3,h4⟩⟩
theorem gB(lo hi:Nat)(l:List Int)(ba:Option Addr)(bc:Nat)(w:World)(hl:l.length≤1000000000)(hv:∀ c∈l,0≤c∧c<256)(h:LentZ lo w ba bc l)(hhi:∀ g,ba=some ⟨g,0,none⟩→g<hi) :
  Calls Tryz.prog 33 #[.slice ba l.length bc,.string (aH l)] w fun e w'=>e=.returned (.bool true)∧Only (fun b=>lo≤b∧b<hi) w w':=by
 rcases h with⟨rfl,rfl,rfl⟩|⟨g,rfl,rfl,h3,h4,h5,h6⟩
 ·refine(sC _ w).mono ?_;rintro e w' ⟨rfl,rfl⟩;exact⟨rfl,Only.refl _ _⟩
 ·refine(qR g l w hl hv h5 h6).mono ?_;rintro e w' ⟨rfl,ho⟩;exact⟨rfl,ho.mono (fun b _ hb=>by have:=hhi g rfl;omega)⟩
theorem vG{ents:Int}{nk:Nat}{draws:List Int}{s:KS}(hok:KOk ents nk draws s)(he:1≤ents∧ents≤8)(hk:nk≤8)(hd:draws.length≤1000)(hs:cE s.q):∀ b∈dL ents nk s,0≤b∧b<256:=by
 intro b hb;simp only[dL,mL,List.mem_append]at hb;rcases hb with (hb|hb)|hb
 ·simp at hb;omega
 ·exact jQ hok he hk hd hs b hb
 ·exact jC _ b hb
theorem pY{ents:Int}{nk:Nat}{draws:List Int}{s:KS}(hok:KOk ents nk draws s)(he:1≤ents∧ents≤8):(dL ents nk s).length≤2000:=by
 have h1:=aG ents;have h2:=aG (nk:Int);have h3:=aG s.clock;have h4:=aG s.next
 have h5:=aG (s.taken:Int);have h6:=mK s (ents.toNat*4);have h7:=aG (s.q.length:Int);have h8:=rH s.clock s.q;have:=hok.len;rw[wU];simp only[fL,List.length_append];omega
theorem xX{base:Nat}{w:World}{g n cap:Nat}{l:List Int}(h:BRow base w (.slice (some ⟨g,0,none⟩) n cap) l)(hb:∀ b∈l,0≤b∧b<256):(convert 56 9 (.slice (some ⟨g,0,none⟩) n cap)).run Tryz.prog w=.ok (.string (aH l)) w:=by
 obtain⟨g',cap',e,_,_,hr⟩:=h.row;rw[e];exact iS hr hb
theorem xB(l:List Int):((aH l).toList==(aH l).toList)=true:=by simp
theorem aA9{base:Nat}(wb:Nat)(lv:Value)(ps:List Pair)(k:BkD)(J:Nat)(i:Nat)(p:Pair)(a b c d ents:Int)(kv l rv qv sv:Value)(w:World)(h:Inv base w wb lv ps (aP k))(hi:ps[i]?=some p)(hG:BkLen J k)(hJ:J≤2000000) :
  Calls Tryz.prog 17 #[.pointer (some ⟨wb,0,none⟩),.agg #[.pointer (some ⟨p.kb,0,none⟩),.pointer (some ⟨p.rb,0,none⟩)],.agg #[.int .i64 7,.int .i64 a,.int .i64 b,.int .i64 c,.int .i64 d,.int .i64 ents,kv,l,rv,qv,sv]] w
   fun e w'=>e=.returned (.bool true)∧Only (sP wb ps (aP k)) w w'∧∃ ps' k',ps'.length=ps.length∧Inv base w' wb lv ps' (aP k')∧BkLen (J+1) k':=by
 have hpm:p∈ps:=List.mem_of_getElem? hi;have hOK:=h.pairs p hpm;obtain⟨⟨he1,he8⟩,hk1,hk8⟩:=gK hOK.kind;have hdl:=dW hOK.draw;have hsz:=h.lo;have hwl:=h.wlt;obtain⟨W,hW⟩:∃ W,W=(w.alloc (.cells #[.pointer (some ⟨p.kb,0,none⟩),.pointer (some ⟨p.rb,0,none⟩)] 52)).alloc (.cells #[.int .i64 7,.int .i64 a,.int .i64 b,.int .i64 c,.int .i64 d,.int .i64 ents,kv,l,rv,qv,sv] 41):=⟨_,rfl⟩;have hb:Below w.heap.size w W:=by rw[hW];exact((Below.refl _ _).alloc (Nat.le_refl _) _).alloc (by simp) _
 have hWs:W.heap.size=w.heap.size+1+1:=by rw[hW];simp
 have c1:W.cell? ⟨w.heap.size,1,none⟩=some (.pointer (some ⟨p.rb,0,none⟩)):=by rw[hW];simp[go_sem]
 have HI:=aB (h.below hb);have HO:=aB (HI.out.pairs p hpm);have HB:=aB hb;have HG:=aB hG;have g3:=hG.bl;have hby:=vG hOK.fit.ok ⟨he1,he8⟩ hk8 hdl hOK.fit.q.sorted;have HSv:=aB (zI p.kb p.qb p.mb p.ov p.ents p.ks p.draws p.s W HO.out.ker HO.out.fit.ok hk8 ⟨he1,he8⟩ hdl HO.out.fit.q.sorted);have HSr:Hid (∀ w2:World,Below W.heap.size W w2→Calls Tryz.prog 53 #[.pointer (some ⟨p.rb,0,none⟩)] w2 fun e w'=>e=.returned (.string (aH (dL p.ents p.ks.length p.s)))∧Below w2.heap.size w2 w'):=by
  intro w2 hb2;exact pM p.rb p.ents p.ks p.draws p.s w2 (HO.out.ref.only (Only.new (S:=fun _=>False) hb2) (by simp) (by simp)) HO.out.fit.ok hk8 ⟨he1,he8⟩ hdl HO.out.fit.q.sorted
 have hlen6:(dL p.ents p.ks.length p.s).length≤1000000:=by
  have:=pY hOK.fit.ok ⟨he1,he8⟩;omega
 generalize hX:dL p.ents p.ks.length p.s=X at HSv HSr hby hlen6;have Hby:=aB hby;have Hl6:=aB hlen6;clear hOK hb hG hby hX hlen6
 go_enter Tryz.func17,Tryz.ntmps17
 go_wp2_with fail
 rw[←hW];refine HSv.out.mono ?_;rintro e w2 ⟨v,rfl,hb2,hrow⟩;have hz2:=hb2.size;have x1:=aA hb2 c1 (by omega)
 obtain⟨g,cap,rfl⟩:=hrow.form;have Hrow:=aB hrow;have HB2:=aB hb2;have HR2:=aB (HSr.out w2 hb2);clear hrow c1 HSv HSr
 go_wp2_with fail
 refine HR2.out.mono ?_;rintro e w3 ⟨rfl,hb3⟩;have hz3:=hb3.size;have hrow3:BRow W.heap.size w3 (.slice (some ⟨g,0,none⟩) X.length cap) X:=Hrow.out.keep (Only.new (S:=fun _=>False) hb3) (by simp)
 have hcv:=xX hrow3 Hby.out;have hs1:=xB X;have hglt:=Hrow.out.lt g rfl;have hB3:Below w.heap.size w w3:=HB.out.trans ((HB2.out.mono (by omega)).trans (hb3.mono (by omega)))
 have HB3:=aB hB3;have HI3:=aB (h.below hB3);have HKb:=aB (fY wb k (some ⟨g,0,none⟩) X.length cap X w3 HI3.out.bkp (.inr hrow3) rfl (by omega) Hl6.out HG.out.b4 (by omega) (fun b hb=>by
  have e:b=g:=by simpa [Value.ownBlock]using hb
  rw[e];exact⟨fun hc=>by have:=h.bkp.ok.lt g hc;omega,by omega⟩))
 clear hrow3 hB3 HR2
 go_wp2_with fail
 refine HKb.out.mono ?_;rintro e w4 ⟨rfl,k',hst,q1,q2,q3⟩;have hI4:=HI3.out.bookStep hst (fun b hb=>by
  have e:b=g:=by simpa [Value.ownBlock]using hb
  rw[e];refine⟨by omega,by omega,by omega,fun hc=>?_,fun q hq hc=>?_⟩
  ·have:=(h.owns.lt g hc.symm).2;omega
  ·have:=(h.pairs q hq).lt g hc;omega)
 have HI4:=aB hI4;have HBB:Hid (Only (sP wb ps (aP k)) w w4):=by
  refine(Only.new HB3.out).chain hst.only ?_;rintro b hb (hc|hc|hc)
  ·exact .inr (.inl hc)
  ·exact .inr (.inr hc)
  ·have e:b=g:=by simpa [Value.ownBlock]using hc
   omega
 have HLen:Hid (BkLen (J+1) k'):=⟨by rw[q3];have:=HG.out.il;omega,by rw[q3];exact HG.out.i4,by rw[q2];have:=HG.out.rl;omega,by rw[q2];exact HG.out.r4,by omega,by have:=HG.out.b4;omega⟩
 clear hI4 hst q1 q2 q3 HKb
 go_wp2
 go_ret;exact⟨by simp,HBB.out,_,k',rfl,HI4.out,HLen.out⟩
attribute [local go_sem] aB6
theorem uB{base:Nat}(wb:Nat)(lv:Value)(ps:List Pair)(k:BkD)(J:Nat)(a b c d ents:Int)(kv l rv qv sv:Value)(rs:List Rec)(w:World)(h:Inv base w wb lv ps (aP k))(hr:RecsX base w rv rs)(hG:BkLen J k)(hJ:J≤2000000)(hb0:0<base) :
  Calls Tryz.prog 16 #[.pointer (some ⟨wb,0,none⟩),.agg #[.int .i64 10,.int .i64 a,.int .i64 b,.int .i64 c,.int .i64 d,.int .i64 ents,kv,l,rv,qv,sv]] w
   fun e w'=>e=.returned (.bool true)∧Below base w w'∧∃ k',Inv base w' wb lv ps (aP k')∧BkLen (J+1) k':=by
 have hbl:=h.lo;have hwl:=h.wlt;obtain⟨W,hW⟩:∃ W,W=w.alloc (.cells #[.int .i64 10,.int .i64 a,.int .i64 b,.int .i64 c,.int .i64 d,.int .i64 ents,kv,l,rv,qv,sv] 41):=⟨_,rfl⟩;have hb:Below w.heap.size w W:=by rw[hW];exact(Below.refl _ _).alloc (Nat.le_refl _) _
 have hWs:W.heap.size=w.heap.size+1:=by rw[hW];simp
 have hop:OpAt W w.heap.size 10 b rv qv sv:=by rw[hW];exact OpAt.new _ _ _ _ _ _ _ _ _ _ _ _ _
 obtain⟨ra,rc,rfl,_⟩:=hr.recIn;have HR:Hid (∀ W',Below w.heap.size w W'→RecIn W' ra rs):=by
  intro W' hb';obtain⟨_,_,e1,hi1⟩:=(hr.below (hb'.mono hbl)).recIn;cases e1;exact hi1
 have Hl1:Hid (rs.length≤1000000000000000):=by have:=hr.1;show _≤_;omega
 have c0:=hop.c0;have c8:=hop.c8;have HW:=aB hW;have HO:=aB hop;have HL:=aB (hY _ rs W (hr.below (hb.mono hbl)) (by omega) hb0)
 have HB:=aB hb;have HG:=aB hG;have g3:=hG.bl;clear hr hop hW hb hG
 go_enter Tryz.func16,Tryz.ntmps16
 go_wp2_with fail
 rw[←HW.out]
 go_wp2_with fail
 refine HL.out.mono ?_;rintro e w1 ⟨sa,sc,ma,mn,mc,rfl,hb1,hQ1⟩;have hz1:=hb1.size;have HB1:Hid (Below w.heap.size w w1):=HB.out.trans (hb1.mono (by omega))
 have HO1:=aB (HO.out.below hb1 (by omega))
 have c0:=HO1.out.c0;have HQ1:=aB hQ1;obtain⟨_,_,e1,hi1⟩:=HQ1.out.recIn;cases e1;have HI1:=aB hi1;clear hQ1 hb1 HL c8 HO hi1;rcases ha:fX rs with _|_
 ·have HE:=aB (aCr sa sc rs w1 HI1.out Hl1.out ha);have e1:nY rs=[]:=by simp[nY,ha]
  have e2:nZ rs=1:=by simp[nZ,ha]
  have HE1:=aB e1;have HE2:=aB e2;clear e1 e2 ha
  go_wp2_with fail
  refine HE.out.mono ?_;rintro e w2 ⟨rfl,hb2⟩;have hz2:=hb2.size;have HB2:Hid (Below w.heap.size w w2):=HB1.out.trans (hb2.mono (by omega))
  have HO2:=aB (HO1.out.below hb2 (by omega))
  have c8:=HO2.out.c8;have HQ2:=aB (HQ1.out.below hb2);have hen:=mO ra rc rs w2 (HR.out w2 HB2.out);rw[HE1.out,HE2.out]at hen;have HEn:=aB hen;clear hb2 HE HQ1 HO1 c0 hen
  go_wp2_with fail
  refine HEn.out.mono ?_;rintro e w3 ⟨rfl,hb3⟩;have hz3:=hb3.size;have HB3:Hid (Below w.heap.size w w3):=HB2.out.trans (hb3.mono (by omega))
  have HO3:=aB (HO2.out.below hb3 (by omega))
  have c8:=HO3.out.c8;have HQ3:=aB (HQ2.out.below hb3);have HX:=aB (fA _ _ _ rs w3 HQ3.out);clear hb3 HEn HQ2 HO2
  go_wp2_with fail
  refine HX.out.mono ?_;rintro e w4 ⟨rfl,ho4⟩;have hz4:=ho4.size;have HB4:Hid (Below w.heap.size w w4):=HB3.out.trans (ho4.below (by omega) (fun k hk hc=>by omega))
  have HI4:=aB (h.below HB4.out);have HKb:=aB (fY (Z:=0) wb k none 0 0 [] w4 HI4.out.bkp (.inl ⟨rfl,rfl⟩) rfl (by omega) (by omega) HG.out.b4 (by omega) (fun b hb=>by simp[Value.ownBlock]at hb))
  have hcv:(convert 56 9 (.slice none 0 0)).run Tryz.prog w4=.ok (.string (aH [])) w4:=by rfl
  have hs1:=xB [];clear ho4 HX HQ3 HO3 c8
  go_wp2_with fail
  refine HKb.out.mono ?_;rintro e w5 ⟨rfl,k',hst,q1,q2,q3⟩;have HI5:=aB (HI4.out.bookStep hst (fun b hb=>by simp[Value.ownBlock]at hb))
  have HBB:Hid (Below base w w5):=by
   refine(HB4.out.mono hbl).trans (hst.only.below (by omega) ?_)
   rintro b hb (hc|hc|hc)
   ·have:=h.blo;omega
   ·have:=(h.bks b hc).1;omega
   ·simp[Value.ownBlock]at hc
  have HLen:Hid (BkLen (J+1) k'):=⟨by rw[q3];have:=HG.out.il;omega,by rw[q3];exact HG.out.i4,by rw[q2];have:=HG.out.rl;omega,by rw[q2];exact HG.out.r4,by have:=HG.out.bl;omega,by have:=HG.out.b4;omega⟩
  clear hst q1 q2 q3 HKb
  go_wp2_with fail
  go_ret;exact⟨by simp,HBB.out,k',HI5.out,HLen.out⟩
 ·have HE:=aB (aAm sa sc rs w1 HI1.out ha);have e1:nY rs=lE rs:=by simp[nY,ha]
  have e2:nZ rs=0:=by simp[nZ,ha]
  have HE1:=aB e1;have HE2:=aB e2;have Hby:=aB (uA ha);have hl6:(lE rs).length≤1000000:=by have:=aEe rs;have:=yV ha;omega
  have Hl6:=aB hl6;generalize lE rs=X at HE HE1 Hby Hl6;clear e1 e2 ha hl6
  go_wp2_with fail
  refine HE.out.mono ?_;rintro e w2 ⟨v,rfl,hb2,hrow⟩;obtain⟨g,cap,rfl⟩:=hrow.form;have hz2:=hb2.size;have HB2:Hid (Below w.heap.size w w2):=HB1.out.trans (hb2.mono (by omega))
  have HO2:=aB (HO1.out.below hb2 (by omega))
  have c8:=HO2.out.c8;have HQ2:=aB (HQ1.out.below hb2);have Hrow:=aB hrow;have hen:=mO ra rc rs w2 (HR.out w2 HB2.out);rw[HE1.out,HE2.out]at hen;have HEn:=aB hen;clear hb2 HE HQ1 HO1 c0 hen hrow
  go_wp2_with fail
  refine HEn.out.mono ?_;rintro e w3 ⟨rfl,hb3⟩;have hz3:=hb3.size;have HB3:Hid (Below w.heap.size w w3):=HB2.out.trans (hb3.mono (by omega))
  have HO3:=aB (HO2.out.below hb3 (by omega))
  have c8:=HO3.out.c8;have HQ3:=aB (HQ2.out.below hb3);have HX:=aB (fA _ _ _ rs w3 HQ3.out);have Hrow3:Hid (BRow w1.heap.size w3 (.slice (some ⟨g,0,none⟩) X.length cap) X):=Hrow.out.keep (Only.new (S:=fun _=>False) hb3) (by simp)
  clear hb3 HEn HQ2 HO2
  go_wp2_with fail
  refine HX.out.mono ?_;rintro e w4 ⟨rfl,ho4⟩;have hz4:=ho4.size;have hglt:=Hrow.out.lt g rfl;have HB4:Hid (Below w.heap.size w w4):=HB3.out.trans (ho4.below (by omega) (fun k hk hc=>by omega))
  have HI4:=aB (h.below HB4.out);have hrow4:BRow w1.heap.size w4 (.slice (some ⟨g,0,none⟩) X.length cap) X:=Hrow3.out.keep ho4 (fun b hb hc=>by
   have e:b=g:=by simpa [Value.ownBlock]using hb
   omega)
  have hcv:=xX hrow4 Hby.out;have hs1:=xB X;have HKb:=aB (fY wb k (some ⟨g,0,none⟩) X.length cap X w4 HI4.out.bkp (.inr hrow4) rfl (by omega) Hl6.out HG.out.b4 (by omega) (fun b hb=>by
   have e:b=g:=by simpa [Value.ownBlock]using hb
   rw[e];exact⟨fun hc=>by have:=h.bkp.ok.lt g hc;omega,by omega⟩))
  clear ho4 HX HQ3 HO3 c8 hrow4 Hrow Hrow3
  go_wp2_with fail
  refine HKb.out.mono ?_;rintro e w5 ⟨rfl,k',hst,q1,q2,q3⟩;have hsz5:g<w4.heap.size:=by omega
  have HI5:=aB (HI4.out.bookStep hst (fun b hb=>by
   have e:b=g:=by simpa [Value.ownBlock]using hb
   rw[e];refine⟨by omega,by omega,by omega,fun hc=>?_,fun q hq hc=>?_⟩
   ·have:=(h.owns.lt g hc.symm).2;omega
   ·have:=(h.pairs q hq).lt g hc;omega))
  have HBB:Hid (Below base w w5):=by
   refine(HB4.out.mono hbl).trans (hst.only.below (by omega) ?_)
   rintro b hb (hc|hc|hc)
   ·have:=h.blo;omega
   ·have:=(h.bks b hc).1;omega
   ·have e:b=g:=by simpa [Value.ownBlock]using hc
    omega
  have HLen:Hid (BkLen (J+1) k'):=⟨by rw[q3];have:=HG.out.il;omega,by rw[q3];exact HG.out.i4,by rw[q2];have:=HG.out.rl;omega,by rw[q2];exact HG.out.r4,by have:=HG.out.bl;omega,by have:=HG.out.b4;omega⟩
  clear hst q1 q2 q3 HKb
  go_wp2_with fail
  go_ret;exact⟨by simp,HBB.out,k',HI5.out,HLen.out⟩
theorem uC{base:Nat}(wb:Nat)(lv:Value)(ps:List Pair)(k:BkD)(J:Nat)(a b c d ents:Int)(kv l rv qv:Value)(bl:List Int)(w:World)(h:Inv base w wb lv ps (aP k))(hv:∀ c∈bl,0≤c∧c<256)(hbl8:bl.length≤1000000000)(hG:BkLen J k)(hJ:J≤2000000) :
  Calls Tryz.prog 16 #[.pointer (some ⟨wb,0,none⟩),.agg #[.int .i64 11,.int .i64 a,.int .i64 b,.int .i64 c,.int .i64 d,.int .i64 ents,kv,l,rv,qv,.string (aH bl)]] w
   fun e w'=>e=.returned (.bool true)∧Below base w w'∧∃ k',Inv base w' wb lv ps (aP k')∧BkLen (J+1) k':=by
 have hbl:=h.lo;have hwl:=h.wlt;obtain⟨W,hW⟩:∃ W,W=w.alloc (.cells #[.int .i64 11,.int .i64 a,.int .i64 b,.int .i64 c,.int .i64 d,.int .i64 ents,kv,l,rv,qv,.string (aH bl)] 41):=⟨_,rfl⟩;have hb:Below w.heap.size w W:=by rw[hW];exact(Below.refl _ _).alloc (Nat.le_refl _) _
 have hWs:W.heap.size=w.heap.size+1:=by rw[hW];simp
 have hop:OpAt W w.heap.size 11 b rv qv (.string (aH bl)):=by rw[hW];exact OpAt.new _ _ _ _ _ _ _ _ _ _ _ _ _
 have c0:=hop.c0;have c2:=hop.c2;have cS:=hop.c10;have HW:=aB hW;have HO:=aB hop;have HL:=aB (jV bl b W hbl8 hv);have Hv:=aB hv;have HB:=aB hb;have HG:=aB hG;have g1:=hG.il;have g2:=hG.rl;obtain⟨hdN,hdR⟩:=aG1 hv;have HD:Hid (∀ w2:World,Calls Tryz.prog 35 #[.string (aH bl)] w2 fun e w'=>Below w2.heap.size w2 w'∧((jD bl=0∧∃ a cap,e=.returned (.tuple #[.slice a (dP (aK bl)).1.length cap,.int .i64 0])∧∃ L,AllR w' w2.heap.size (.slice a (dP (aK bl)).1.length cap) L (dP (aK bl)).1)∨(jD bl≠0∧e=.returned (.tuple #[.slice none 0 0,.int .i64 (jD bl)])))):=by
  intro w2;refine(zR bl w2 hv hbl8).mono ?_;rintro e w' ⟨hb,⟨h0,a,cap,rfl,hi⟩|⟨h0,rfl⟩⟩
  ·rw[hdN]at h0;rw[hdR h0]at hi ⊢;exact⟨hb,.inl ⟨h0,a,cap,rfl,hi⟩⟩
  ·rw[hdN]at h0 ⊢;exact⟨hb,.inr ⟨h0,rfl⟩⟩
 have HT:Hid (jD bl=0→(dP (aK bl)).1.length≤1000∧∀ r∈(dP (aK bl)).1,r.told.length≤1000000):=by
  intro h0;have ha:=(aBe hv h0).1;obtain⟨h1,h2⟩:=kH ha;exact⟨h1,fun r hr=>by have:=(mH h2 r hr).len;omega⟩
 clear hop hW hb hG hv hdN hdR
 go_enter Tryz.func16,Tryz.ntmps16
 go_wp2_with fail
 rw[←HW.out]
 go_wp2_with fail
 refine HL.out.mono ?_;rintro e w1 ⟨ba,bc,rfl,hb1,hZ1⟩;have hz1:=hb1.size;have HB1:Hid (Below w.heap.size w w1):=HB.out.trans (hb1.mono (by omega))
 have HO1:=aB (HO.out.below hb1 (by omega))
 have HZ1:=aB hZ1;have HDc:=aB (aAo ba bc bl w1 (hZ1.bytes Hv.out hbl8));have Hg:Hid (∀ g,ba=some ⟨g,0,none⟩→g<w1.heap.size):=by
  intro g hg;rcases hZ1 with⟨e,_⟩|⟨g',e,_,_,hlt,_,_⟩
  ·rw[e]at hg;cases hg
  ·rw[e]at hg;simp only[Option.some.injEq,Addr.mk.injEq,and_true]at hg;omega
 clear hZ1 hb1 HL c0 c2 cS HO
 go_wp2_with fail
 refine HDc.out.mono ?_;rintro e w2 ⟨v,rfl,hb2,hno,hyes⟩;have hz2:=hb2.size;have HB2:Hid (Below w.heap.size w w2):=HB1.out.trans (hb2.mono (by omega))
 have HO2:=aB (HO1.out.below hb2 (by omega))
 have cS:=HO2.out.c10;have HZ2:=aB (HZ1.out.below hb2);obtain⟨E,hE⟩:∃ E,E=jD bl:=⟨_,rfl⟩;obtain⟨rs,hrs⟩:∃ rs,rs=(dP (aK bl)).1:=⟨_,rfl⟩;rw[←hE,←hrs]at HD HT;rw[←hE]at hno hyes ⊢;rw[←hrs]at hyes;clear hE hrs HDc HZ1 HO1 hb2
 by_cases h0:E=0
 ·subst h0;obtain⟨L,hA,hAp⟩:=hyes rfl;have hLr:L.length=rs.length:=hA.len;obtain⟨la,lc,hvv⟩:=aM hA.row;rw[hLr]at hvv;subst hvv;have HA:=aB hA;have HAp:=aB hAp;obtain⟨hn,htl⟩:=HT.out rfl;have Htl:=aB htl;have HD2:=aB (HD.out w2);clear hno hyes hA hAp htl HT HD
  go_wp2_with fail
  refine HD2.out.mono ?_;rintro e w3 ⟨hb3,⟨_,ma,mc,rfl,hin⟩|⟨hx,_⟩⟩;rotate_left
  ·exact absurd rfl hx
  have hz3:=hb3.size;have HB3:Hid (Below w.heap.size w w3):=HB2.out.trans (hb3.mono (by omega))
  have HO3:=aB (HO2.out.below hb3 (by omega))
  have cS:=HO3.out.c10;have HZ3:=aB (HZ2.out.below hb3);have HX:=aB (gB W.heap.size w1.heap.size bl ba bc w3 hbl8 Hv.out HZ3.out Hg.out);have HA3:=aB (HA.out.only (Only.new (S:=fun _=>False) hb3) (by simp))
  have HIn:=aB hin;clear hb3 HD2 HZ2 HO2 hin HA
  go_wp2_with fail
  refine HX.out.mono ?_;rintro e w4 ⟨rfl,ho4⟩;have hz4:=ho4.size;have HB4:Hid (Below w.heap.size w w4):=HB3.out.trans (ho4.below (by omega) (fun k hk hc=>by omega))
  have HI4:=aB (h.below HB4.out);have hset:∀ b,gF (.slice la rs.length lc) L b→w1.heap.size≤b∧b<w3.heap.size:=fun b hb=>HA3.out.lt b hb;have hA4:AllR w4 w1.heap.size (.slice la rs.length lc) L rs:=HA3.out.only ho4 (fun b hb hc=>by have:=hset b hb;omega)
  have HIn4:Hid (RecIn w4 ma rs):=by
   obtain⟨L2,hL2⟩:=HIn.out;obtain⟨_,_,e,hi⟩:=(hL2.only ho4 (fun b hb hc=>by have:=hL2.lt b hb;omega)).recIn
   cases e;exact hi
  have HRec:=aB (jF wb k la ma rs.length lc mc L rs 0 w4 HI4.out.bkp hA4 HAp.out HIn4.out (by omega) hn Htl.out HG.out.i4 HG.out.r4 (by omega) (by omega) (fun b hb=>⟨fun hc=>by have h1:=h.bkp.ok.lt b hc;have h2:=hset b hb;omega,fun hc=>by have h2:=hset b hb;omega⟩) (.inl rfl))
  have Hset:=aB hset;clear ho4 HX HZ3 HO3 cS hset hA4 HIn HIn4 HA3
  go_wp2_with fail
  refine HRec.out.mono ?_;rintro e w5 ⟨rfl,k',hst,q1,q2,q3,q4⟩;have HI5:=aB (HI4.out.bookStep hst (fun b hb=>by
   have h2:=Hset.out b hb;refine⟨by omega,by omega,by omega,fun hc=>?_,fun q hq hc=>?_⟩
   ·have:=(h.owns.lt b hc.symm).2;omega
   ·have:=(h.pairs q hq).lt b hc;omega))
  have HBB:Hid (Below base w w5):=by
   refine(HB4.out.mono hbl).trans (hst.only.below (by omega) ?_)
   rintro b hb (hc|hc|hc)
   ·have:=h.blo;omega
   ·have:=(h.bks b hc).1;omega
   ·have:=Hset.out b hc;omega
  have HLen:Hid (BkLen (J+1) k'):=⟨by have:=HG.out.il;omega,q2,by have:=HG.out.rl;omega,by have:=HG.out.r4;omega,by rw[q4];have:=HG.out.bl;omega,by rw[q4];exact HG.out.b4⟩
  clear hst q1 q2 q3 q4 HRec
  go_wp2_with fail
  go_ret;exact⟨by simp,HBB.out,k',HI5.out,HLen.out⟩
 ·have hvv:=hno h0;subst hvv;have HD2:=aB (HD.out w2);have Hn0:=aB h0;clear hno hyes HT HD h0
  go_wp2_with fail
  refine HD2.out.mono ?_;rintro e w3 ⟨hb3,⟨hx,_⟩|⟨_,rfl⟩⟩
  ·exact absurd hx Hn0.out
  have hz3:=hb3.size;have HB3:Hid (Below w.heap.size w w3):=HB2.out.trans (hb3.mono (by omega))
  have HO3:=aB (HO2.out.below hb3 (by omega))
  have cS:=HO3.out.c10;have HZ3:=aB (HZ2.out.below hb3);have HX:=aB (gB W.heap.size w1.heap.size bl ba bc w3 hbl8 Hv.out HZ3.out Hg.out);clear hb3 HD2 HZ2 HO2
  go_wp2_with fail
  refine HX.out.mono ?_;rintro e w4 ⟨rfl,ho4⟩;have hz4:=ho4.size;have HB4:Hid (Below w.heap.size w w4):=HB3.out.trans (ho4.below (by omega) (fun k hk hc=>by omega))
  have HI4:=aB (h.below HB4.out);have hno:∀ b,¬gF (.slice none 0 0) [] b:=by
   intro b hb;rcases hb with hb|⟨x,hx,_⟩
   ·simp[Value.ownBlock]at hb
   ·simp at hx
  have HRec:=aB (jF wb k none none 0 0 0 [] [] E w4 HI4.out.bkp (AllR.nil w4 w4.heap.size) (fun j k x y b hx=>by simp at hx) (fun i r hr=>by simp at hr) (Nat.le_refl _) (by omega) (by simp) HG.out.i4 HG.out.r4 (by omega) (by omega) (fun b hb=>absurd hb (hno b)) (.inr ⟨rfl,rfl,rfl⟩))
  have Hno:=aB hno;clear ho4 HX HZ3 HO3 cS hno
  go_wp2_with fail
  refine HRec.out.mono ?_;rintro e w5 ⟨rfl,k',hst,q1,q2,q3,q4⟩;have HI5:=aB (HI4.out.bookStep hst (fun b hb=>absurd hb (Hno.out b)));have HBB:Hid (Below base w w5):=by
   refine(HB4.out.mono hbl).trans (hst.only.below (by omega) ?_)
   rintro b hb (hc|hc|hc)
   ·have:=h.blo;omega
   ·have:=(h.bks b hc).1;omega
   ·exact absurd hc (Hno.out b)
  have HLen:Hid (BkLen (J+1) k'):=⟨by have:=HG.out.il;omega,q2,by have:=HG.out.rl;omega,by have:=HG.out.r4;omega,by rw[q4];have:=HG.out.bl;omega,by rw[q4];exact HG.out.b4⟩
  clear hst q1 q2 q3 q4 HRec
  go_wp2_with fail
  go_ret;exact⟨by simp,HBB.out,k',HI5.out,HLen.out⟩
end Go.Proofs.YtndlmgocldckfaaGreat
