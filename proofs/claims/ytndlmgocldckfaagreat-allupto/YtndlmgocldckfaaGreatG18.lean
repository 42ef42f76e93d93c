import Derived.Test.YtndlmgocldckfaaGreatG17
import Derived.Test.YtndlmgocldckfaaGreatG14
import Derived.Test.YtndlmgocldckfaaGreatG11
import Derived.Test.YtndlmgocldckfaaGreatG04
import Derived.Test.YtndlmgocldckfaaGreatG13
namespace Go.Proofs.YtndlmgocldckfaaGreat
open Go.RowKit
set_option linter.unusedVariables false
set_option linter.unusedSimpArgs false
set_option maxRecDepth 100000
set_option maxHeartbeats 4000000
theorem gK{ents:Int}{ks:List (List Ins)}(h:bE ents ks=none):(1≤ents∧ents≤8)∧1≤ks.length∧ks.length≤8:=by
 unfold bE at h
 split at h
 ·simp at h
 ·rename_i hn
  simp[inB]at hn;omega
theorem dW{draws:List Int}(h:cO draws=true):draws.length≤1000:=by
 simp[cO]at h;exact h.1
def aAa(ps:List Pair)(b:Nat):Prop:=∃ p∈ps,p.has b
theorem xZ(ents:Int)(s:KS)(i:Nat)(h:i<(ents*4).toNat):(cY ents s)[i]?=some (s.regs i):=by
 simp[cY,h]
theorem dI(ents:Int)(s:KS):(cY ents s).length=(ents*4).toNat:=by simp[cY]
theorem aAb{base:Nat}(wb:Nat)(lv:Value)(ps:List Pair)(bk:BookD)(i:Nat)(p:Pair)(a b c d ents:Int)(kv l rv qv sv:Value)(w:World)(h:Inv base w wb lv ps bk)(hi:ps[i]?=some p) :
  Calls Tryz.prog 17 #[.pointer (some ⟨wb,0,none⟩),.agg #[.pointer (some ⟨p.kb,0,none⟩),.pointer (some ⟨p.rb,0,none⟩)],.agg #[.int .i64 3,.int .i64 a,.int .i64 b,.int .i64 c,.int .i64 d,.int .i64 ents,kv,l,rv,qv,sv]] w
   fun e w'=>e=.returned (.bool true)∧Only (aAa ps) w w'∧∃ ps',ps'.length=ps.length∧Inv base w' wb lv ps' bk:=by
 have hpm:p∈ps:=List.mem_of_getElem? hi;have hOK:=h.pairs p hpm;obtain⟨⟨he1,he8⟩,hk1,hk8⟩:=gK hOK.kind;have hlt:=hOK.lt;have hsz:=h.lo;obtain⟨W,hW⟩:∃ W,W=(w.alloc (.cells #[.pointer (some ⟨p.kb,0,none⟩),.pointer (some ⟨p.rb,0,none⟩)] 52)).alloc (.cells #[.int .i64 3,.int .i64 a,.int .i64 b,.int .i64 c,.int .i64 d,.int .i64 ents,kv,l,rv,qv,sv] 41):=⟨_,rfl⟩;have hb:Below w.heap.size w W:=by rw[hW];exact((Below.refl _ _).alloc (Nat.le_refl _) _).alloc (by simp) _
 have hWs:W.heap.size=w.heap.size+1+1:=by rw[hW];simp
 have c1:W.cell? ⟨w.heap.size,1,none⟩=some (.pointer (some ⟨p.rb,0,none⟩)):=by rw[hW];simp[go_sem]
 have c2:W.cell? ⟨w.heap.size+1,2,none⟩=some (.int .i64 b):=by rw[hW];simp[go_sem]
 have c3:W.cell? ⟨w.heap.size+1,3,none⟩=some (.int .i64 c):=by rw[hW];simp[go_sem]
 have c4:W.cell? ⟨w.heap.size+1,4,none⟩=some (.int .i64 d):=by rw[hW];simp[go_sem]
 have HI:=aB (h.below hb);have HO:=aB (HI.out.pairs p hpm);have Hlt:=aB hlt;have hnx:=hOK.fit.ok.next
 have HB:=aB hb;have HOK:=aB hOK;clear hlt hOK hb;rcases hyes:aA2 p.ents p.ks.length p.s b c d with _|_
 ·have Hyes:=aB hyes;clear hyes
  go_enter Tryz.func17,Tryz.ntmps17
  go_wp2_with fail
  rw[←hW];refine(aBx p.kb p.qb p.mb p.ov p.ents p.ks p.draws p.s _ _ _ _ HO.out.ker he1 he8 hk8 Hyes.out).mono ?_;rintro e w2 ⟨rfl,hb2⟩;have g1:=aA hb2 c1 (by omega)
  have g2:=aA hb2 c2 (by omega)
  have g3:=aA hb2 c3 (by omega)
  have g4:=aA hb2 c4 (by omega)
  have hz2:=hb2.size;have HI2:=aB (HI.out.below hb2);have HB2:=aB (HB.out.trans (hb2.mono (by omega)))
  clear c1 c2 c3 c4 hb2
  go_wp2_with fail
  refine(aCm p.rb p.ents p.ks p.draws p.s.taken p.s.clock p.s.next _ p.s.q _ _ _ _ (HI2.out.pairs p hpm).ref he1 he8 hk8 Hyes.out).mono ?_
  rintro e w3 ⟨rfl,rfl⟩
  go_wp2
  go_ret;exact⟨rfl,Only.new HB2.out,ps,rfl,HI2.out⟩
 ·have Hyes:=aB hyes;clear hyes
  go_enter Tryz.func17,Tryz.ntmps17
  go_wp2_with fail
  rw[←hW];refine(aBy p.kb p.qb p.mb p.ov p.ents p.ks p.draws p.s _ _ _ _ HO.out.ker HO.out.kbs HOK.out.fit.ok he1 he8 hk8 Hyes.out).mono ?_;rintro e w2 ⟨ho2,hres⟩;have hnk:∀ x,w.heap.size≤x→¬bG p.kb p.qb p.mb p.ov x:=fun x hx hc=>by have:=Hlt.out x (.inl (.inl hc));omega
  have g1:=ho2.at c1 (hnk _ (by omega))
  have g2:=ho2.at c2 (hnk _ (by omega))
  have g3:=ho2.at c3 (hnk _ (by omega))
  have g4:=ho2.at c4 (hnk _ (by omega))
  have hz2:=ho2.size;have Href:Hid (RefK p.rR w2 p.rb p.ents p.ks p.draws p.s.taken p.s.clock p.s.next (cY p.ents p.s) p.s.q):=HO.out.ref.only ho2 (fun x hx hc=>(HO.out.sepr x hx).2.2 hc) HO.out.sep
  have HRw:Hid (∀ x,p.rR x→x<w2.heap.size∧x≠p.rb):=fun x hx=>⟨by have:=(HO.out.sepr x hx).1;omega,(HO.out.sepr x hx).2.1⟩
  have Hres:=aB hres;have Ho2:=aB ho2;have Hnk:=aB hnk;clear hres ho2 hnk c1 c2 c3 c4;rcases Hres.out with⟨hn,rfl,hP2⟩|⟨hn,rfl,ov',hmv,hP2⟩
  ·have Hd:Hid ((decide (p.s.q.length<16)&&decide (p.s.next<1000000000))=false):=by
    show _=_;rw[Bool.and_eq_false_iff,decide_eq_false_iff_not,decide_eq_false_iff_not]
    by_cases h1:p.s.q.length<16
    ·exact .inr (fun h2=>hn ⟨h1,h2⟩)
    ·exact .inl h1
   have HP2:=aB hP2;clear hP2 hn
   go_wp2_with fail
   refine(yL p.rb p.ents p.ks p.draws p.s.taken p.s.clock p.s.next _ p.s.q _ _ _ _ Href.out he1 he8 hk8 HRw.out (by omega) Hyes.out).mono ?_
   rintro e w3 hr3;rcases hr3.symm with⟨hf,_⟩|⟨_,rfl,rfl⟩
   ·rw[Hd.out]at hf;cases hf
   have ho23:Only p.has W w3:=Ho2.out.mono (fun x _ e=>.inl e);have hup:Inv base w3 wb lv (ps.set i p) bk:=by
    refine HI.out.update hi ho23 rfl rfl ⟨HP2.out,Href.out,HOK.out.fit,HOK.out.regz,HOK.out.kind,HOK.out.draw,Nat.le_trans HO.out.kbs hz2,Nat.lt_of_lt_of_le HO.out.rlt hz2,fun x hx=>⟨(HRw.out x hx).1,(HO.out.sepr x hx).2⟩,HO.out.sepk,HO.out.sep⟩ (fun x hx=>.inl hx)
   have HU:=aB hup;have HBB:Hid (Only (aAa ps) w _):=(Only.new HB.out).trans (ho23.mono (fun x _ hx=>⟨p,hpm,hx⟩));clear hup ho23
   go_wp2
   go_ret;exact⟨by simp,HBB.out,_,by simp,HU.out⟩
  ·have Hd:Hid ((decide (p.s.q.length<16)&&decide (p.s.next<1000000000))=true):=by show _=_;simp;omega
   have HP2:=aB hP2;have Hmv:=aB hmv;have Hn:=aB hn;clear hP2 hmv hn
   go_wp2_with fail
   refine(yL p.rb p.ents p.ks p.draws p.s.taken p.s.clock p.s.next _ p.s.q _ _ _ _ Href.out he1 he8 hk8 HRw.out (by omega) Hyes.out).mono ?_
   rintro e w3 hr3;rcases hr3 with⟨hf,_⟩|⟨_,rfl,ho3,hP3⟩
   ·rw[Hd.out]at hf;cases hf
   have ho23:Only p.has W w3:=(Ho2.out.mono (S':=p.has) (fun x _ e=>.inl e)).trans (ho3.mono (fun x _ e=>.inr e));have hz3:=ho3.size;have hset:∀ x,bG p.kb p.qb p.mb ov' x→bG p.kb p.qb p.mb p.ov x∨W.heap.size≤x:=by
    rintro x (hx|hx|hx|hx)
    ·exact .inl (.inl hx)
    ·exact .inl (.inr (.inl hx))
    ·exact .inl (.inr (.inr (.inl hx)))
    ·rcases Hmv.out with e|⟨g,e,hg⟩
     ·exact .inl (.inr (.inr (.inr (hx.trans e))))
     ·rw[e]at hx;simp at hx;exact .inr (by omega)
   have hklt:=HP2.out.lt;have hsep':¬bG p.kb p.qb p.mb ov' p.rb:=fun hc=>by
    rcases hset _ hc with hc|hc
    ·exact HO.out.sep hc
    ·have:=HO.out.rlt;omega
   have hup:Inv base w3 wb lv (ps.set i {p with ov:=ov',s:=vR p.s b c d,rR:=fun x=>p.rR x∨(w2.heap.size≤x∧x<w3.heap.size)}) bk:=by
    refine HI.out.update hi ho23 rfl rfl ⟨?_,?_,aEb HOK.out.fit Hyes.out Hn.out,HOK.out.regz,HOK.out.kind,HOK.out.draw,by have:=HO.out.kbs;show p.kbs≤_;omega,by have:=HO.out.rlt;show p.rb<_;omega,?_,HO.out.sepk,hsep'⟩ ?_
    ·exact HP2.out.only ho3 (fun x hx hc=>hsep' (hc▸hx)) (fun x hx hc=>HO.out.sepk x hx hc)
    ·exact hP3
    ·rintro x (hx|hx)
     ·refine⟨by have:=(HRw.out x hx).1;omega,(HRw.out x hx).2,fun hc=>?_⟩
      rcases hset x hc with hc|hc
      ·exact(HO.out.sepr x hx).2.2 hc
      ·have:=(HO.out.sepr x hx).1;omega
     ·refine⟨hx.2,by have:=HO.out.rlt;show x≠p.rb;omega,fun hc=>by have:=hklt x hc;omega⟩
    ·rintro x ((hx|hx)|hx|hx|hx)
     ·rcases hset x hx with hx|hx
      ·exact .inl (.inl (.inl hx))
      ·exact .inr hx
     ·exact .inl (.inl (.inr hx))
     ·exact .inl (.inr (.inl hx))
     ·exact .inl (.inr (.inr hx))
     ·exact .inr (by omega)
   have HU:=aB hup;have HBB:Hid (Only (aAa ps) w _):=(Only.new HB.out).trans (ho23.mono (fun x _ hx=>⟨p,hpm,hx⟩));clear hup ho23 hset hklt hsep' hP3 ho3
   go_wp2
   go_ret;exact⟨by simp,HBB.out,_,by simp,HU.out⟩
theorem aCa{base:Nat}(wb:Nat)(lv:Value)(ps:List Pair)(bk:BookD)(i:Nat)(p:Pair)(a b c d ents:Int)(kv l rv qv sv:Value)(w:World)(h:Inv base w wb lv ps bk)(hi:ps[i]?=some p) :
  Calls Tryz.prog 17 #[.pointer (some ⟨wb,0,none⟩),.agg #[.pointer (some ⟨p.kb,0,none⟩),.pointer (some ⟨p.rb,0,none⟩)],.agg #[.int .i64 5,.int .i64 a,.int .i64 b,.int .i64 c,.int .i64 d,.int .i64 ents,kv,l,rv,qv,sv]] w
   fun e w'=>e=.returned (.bool true)∧Only (aAa ps) w w'∧∃ ps',ps'.length=ps.length∧Inv base w' wb lv ps' bk:=by
 have hpm:p∈ps:=List.mem_of_getElem? hi;have hOK:=h.pairs p hpm;have htk:=hOK.fit.ok.taken;have hdl:=dW hOK.draw;have hsz:=h.lo;obtain⟨W,hW⟩:∃ W,W=(w.alloc (.cells #[.pointer (some ⟨p.kb,0,none⟩),.pointer (some ⟨p.rb,0,none⟩)] 52)).alloc (.cells #[.int .i64 5,.int .i64 a,.int .i64 b,.int .i64 c,.int .i64 d,.int .i64 ents,kv,l,rv,qv,sv] 41):=⟨_,rfl⟩;have hb:Below w.heap.size w W:=by rw[hW];exact((Below.refl _ _).alloc (Nat.le_refl _) _).alloc (by simp) _
 have hWs:W.heap.size=w.heap.size+1+1:=by rw[hW];simp
 have c1:W.cell? ⟨w.heap.size,1,none⟩=some (.pointer (some ⟨p.rb,0,none⟩)):=by rw[hW];simp[go_sem]
 have HI:=aB (h.below hb);have HB:=aB hb;clear hOK hb
 go_enter Tryz.func17,Tryz.ntmps17
 go_wp2_with fail
 rw[←hW];refine(aDn p.kb p.qb p.mb p.ov p.ents p.ks p.draws p.s _ (HI.out.pairs p hpm).ker htk).mono ?_;rintro e w2 ⟨rfl,hb2⟩;have g1:=aA hb2 c1 (by omega)
 have hz2:=hb2.size;have HI2:=aB (HI.out.below hb2);have HB2:=aB (HB.out.trans (hb2.mono (by omega)))
 clear c1 hb2
 go_wp2_with fail
 refine(aE3 p.rb p.ents p.ks p.draws p.s.taken p.s.clock p.s.next _ p.s.q _ (HI2.out.pairs p hpm).ref (by omega) (by omega)).mono ?_
 rintro e w3 ⟨rfl,hb3⟩;have HI3:=aB (HI2.out.below hb3);have HB3:=aB (HB2.out.trans (hb3.mono (by omega)))
 clear hb3
 go_wp2
 go_ret;exact⟨by simp,Only.new HB3.out,ps,rfl,HI3.out⟩
theorem aCb{base:Nat}(wb:Nat)(lv:Value)(ps:List Pair)(bk:BookD)(i:Nat)(p:Pair)(a b c d ents:Int)(kv l rv qv sv:Value)(w:World)(h:Inv base w wb lv ps bk)(hi:ps[i]?=some p) :
  Calls Tryz.prog 17 #[.pointer (some ⟨wb,0,none⟩),.agg #[.pointer (some ⟨p.kb,0,none⟩),.pointer (some ⟨p.rb,0,none⟩)],.agg #[.int .i64 6,.int .i64 a,.int .i64 b,.int .i64 c,.int .i64 d,.int .i64 ents,kv,l,rv,qv,sv]] w
   fun e w'=>e=.returned (.bool true)∧Only (aAa ps) w w'∧∃ ps',ps'.length=ps.length∧Inv base w' wb lv ps' bk:=by
 have hpm:p∈ps:=List.mem_of_getElem? hi;have hOK:=h.pairs p hpm;obtain⟨⟨he1,he8⟩,hk1,hk8⟩:=gK hOK.kind;have hsz:=h.lo;obtain⟨W,hW⟩:∃ W,W=(w.alloc (.cells #[.pointer (some ⟨p.kb,0,none⟩),.pointer (some ⟨p.rb,0,none⟩)] 52)).alloc (.cells #[.int .i64 6,.int .i64 a,.int .i64 b,.int .i64 c,.int .i64 d,.int .i64 ents,kv,l,rv,qv,sv] 41):=⟨_,rfl⟩;have hb:Below w.heap.size w W:=by rw[hW];exact((Below.refl _ _).alloc (Nat.le_refl _) _).alloc (by simp) _
 have hWs:W.heap.size=w.heap.size+1+1:=by rw[hW];simp
 have c1:W.cell? ⟨w.heap.size,1,none⟩=some (.pointer (some ⟨p.rb,0,none⟩)):=by rw[hW];simp[go_sem]
 have c2:W.cell? ⟨w.heap.size+1,2,none⟩=some (.int .i64 b):=by rw[hW];simp[go_sem]
 have c3:W.cell? ⟨w.heap.size+1,3,none⟩=some (.int .i64 c):=by rw[hW];simp[go_sem]
 have HI:=aB (h.below hb);have Hrl:Hid (((cY p.ents p.s).length:Int)=p.ents*4):=by(show _=_;rw[dI];omega)
 have HB:=aB hb;clear hOK hb
 go_enter Tryz.func17,Tryz.ntmps17
 go_wp2_with fail
 rw[←hW];refine(aDo p.kb p.qb p.mb p.ov p.ents p.ks p.draws p.s _ _ _ (HI.out.pairs p hpm).ker he1 he8).mono ?_;rintro e w2 ⟨rfl,hb2⟩;have g1:=aA hb2 c1 (by omega)
 have g2:=aA hb2 c2 (by omega)
 have g3:=aA hb2 c3 (by omega)
 have hz2:=hb2.size;have HI2:=aB (HI.out.below hb2);have HB2:=aB (HB.out.trans (hb2.mono (by omega)))
 clear c1 c2 c3 hb2
 go_wp2_with fail
 refine(aE4 p.rb p.ents p.ks p.draws p.s.taken p.s.clock p.s.next _ p.s.q _ _ _ (HI2.out.pairs p hpm).ref he1 he8 Hrl.out).mono ?_
 rintro e w3 ⟨rfl,hr3⟩;have hE:e=.returned (.tuple #[.int .i64 (oF p.ents p.s b c).1,.int .i64 (oF p.ents p.s b c).2]):=by
  rcases hr3 with⟨h1,rfl⟩|⟨h1,x,hx,rfl⟩
  ·simp[oF,h1]
  ·have h1':=h1;simp only[inB,Bool.and_eq_true,decide_eq_true_eq]at h1';rw[xZ _ _ _ (by omega)]at hx
   have hx':=Option.some.inj hx;rw[show(b*4+c).toNat=b.toNat*4+c.toNat by omega]at hx'
   simp[oF,h1,hx']
 subst hE;generalize (oF p.ents p.s b c).1=r1;generalize (oF p.ents p.s b c).2=r2;clear hr3
 go_wp2
 go_ret;exact⟨by simp,Only.new HB2.out,ps,rfl,HI2.out⟩
theorem aCc{base:Nat}(wb:Nat)(lv:Value)(ps:List Pair)(bk:BookD)(i:Nat)(p:Pair)(k a b c d ents:Int)(kv l rv qv sv:Value)(w:World)(h:Inv base w wb lv ps bk)(hi:ps[i]?=some p)(hk:k=3∨k=5∨k=6) :
  Calls Tryz.prog 17 #[.pointer (some ⟨wb,0,none⟩),.agg #[.pointer (some ⟨p.kb,0,none⟩),.pointer (some ⟨p.rb,0,none⟩)],.agg #[.int .i64 k,.int .i64 a,.int .i64 b,.int .i64 c,.int .i64 d,.int .i64 ents,kv,l,rv,qv,sv]] w
   fun e w'=>e=.returned (.bool true)∧Only (aAa ps) w w'∧∃ ps',ps'.length=ps.length∧Inv base w' wb lv ps' bk:=by
 rcases hk with rfl|rfl|rfl
 ·exact aAb wb lv ps bk i p a b c d ents kv l rv qv sv w h hi
 ·exact aCa wb lv ps bk i p a b c d ents kv l rv qv sv w h hi
 ·exact aCb wb lv ps bk i p a b c d ents kv l rv qv sv w h hi
theorem lZ(wb:Nat)(w:World) :
  Calls Tryz.prog 29 #[.pointer (some ⟨wb,0,none⟩),.pointer none,.pointer none] w fun e w'=>e=.returned (.bool true)∧w'=w:=by
 go_enter Tryz.func29,Tryz.ntmps29
 go_wp2
 go_ret;exact⟨rfl,rfl⟩
theorem xY{base:Nat}{w0:World}(wb:Nat)(lv:Value)(ps:List Pair)(p:Pair)(bk:BookD)(w:World)(h:Inv base w0 wb lv ps bk)(hb:Below w0.heap.size w0 w)
  (hp:PairOK w p) (hm:∀ b,p.own b→w0.heap.size≤b) (hlen:(ps.length+1)*16≤140737488355328) (hbase:base≤w0.heap.size) :
  Calls Tryz.prog 29 #[.pointer (some ⟨wb,0,none⟩),.pointer (some ⟨p.kb,0,none⟩),.pointer (some ⟨p.rb,0,none⟩)] w fun e w'=>e=.returned (.bool true)∧Below base w0 w'∧∃ lv',Inv base w' wb lv' (ps++[p]) bk:=by
 have hw0:=h.wlt;have hc0:=aA hb h.cell hw0;have hz0:=hb.size;have hown:=xQ h.owns hb;have Hown:=aB hown;clear hown;obtain⟨la,lc,rfl⟩:=bF h.owns;have hf0:=(hb.frozen (p:=⟨wb,0,none⟩) hw0).trans (h.room 0 (by omega)).2
 go_enter Tryz.func29,Tryz.ntmps29
 go_wp2_with (at_builtin;refine aD rfl (.tmp 18) (.tmp 22) 28 rfl base 52 (.agg #[.pointer none,.pointer none]) 2 16 Tryz.underlying28 Tryz.info52 rfl (by omega) _ ps.length (cG ps) rfl (Hown.out.alloc _) _ 1 (cC p) rfl (.inr (.inl ⟨w.heap.size,0,_,rfl,?_⟩)) rfl (by simp[cC,Value.oneCell']) (by omega) (by omega) (by simp;omega) ?_)
 ·intro j u hu;have hj:j<2:=by have:=(List.getElem?_eq_some_iff.1 hu).1;simpa [cC]using this
  have:j=0∨j=1:=by omega
  rcases this with rfl|rfl<;>simp[cC]at hu<;>subst hu<;>simp[go_sem]
 intro v2 w2 hown2 hgr2 hwh2;obtain⟨sa2,sc2,rfl⟩:=bF hown2.out;have hW:=(Below.refl w.heap.size w).alloc (Nat.le_refl _) (.cells #[.pointer (some ⟨p.kb,0,none⟩),.pointer (some ⟨p.rb,0,none⟩)] 52);have hI:=h.one hb hp hm _ hW hgr2.out hown2.out (by simpa using hwh2.out)
 have ho2:=(kP hgr2.out);have hwl:¬some wb=(Value.slice la ps.length lc).ownBlock:=fun e=>h.lne e.symm;have hc2:w2.cell? ⟨wb,0,none⟩=some (.slice la ps.length lc):=ho2.at (aA hW hc0 (by omega)) hwl
 have hf2:w2.frozen? ⟨wb,0,none⟩=false:=by
  rw[World.frozen?_of_block (w:=w.alloc (.cells #[.pointer (some ⟨p.kb,0,none⟩),.pointer (some ⟨p.rb,0,none⟩)] 52)) (a:=⟨wb,0,none⟩) (ho2.block wb (by simp;omega) hwl)]
  exact(hW.frozen (p:=⟨wb,0,none⟩) (by show wb<_;omega)).trans hf0
 have hbb:Below base w0 w2:=(hb.mono hbase).trans ((hW.mono (by omega)).grown hgr2.out (by simp;omega) (fun b hb=>(h.owns.lt b hb).1))
 have HI:=aB hI;have hblo:=h.blo;clear hI hc0 hf0
 go_wp2
 go_ret;exact⟨rfl,hbb.setCell (by exact hblo) _,_,HI.out⟩
theorem rN(ents:Int)(v:Value)(ks:List (List Ins))(w:World)(hv:KindsV w.heap.size w v ks) :
  Calls Tryz.prog 22 #[.agg #[.int .i64 ents,v]] w
   fun e w'=>e=.returned (bO ents ks)∧Below w.heap.size w w':=by
 go_enter Tryz.func22,Tryz.ntmps22
 go_wp2_with fail
 refine(kO ents v ks _ ((hv.below ((Below.refl _ _).alloc (Nat.le_refl _) _)).mono (by simp))).mono ?_
 rintro e w1 ⟨rfl,hb1⟩;rw[iJ]
 go_wp2
 go_ret3
 exact⟨by simp[iJ],((Below.refl _ _).alloc (Nat.le_refl _) _).trans (hb1.mono (by simp))⟩
theorem sM{base:Nat}(wb:Nat)(lv:Value)(ps:List Pair)(bk:BookD)(a b c d ents:Int)(l rv qv sv:Value)(w:World)(h:Inv base w wb lv ps bk) :
  Calls Tryz.prog 15 #[.pointer (some ⟨wb,0,none⟩),.agg #[.int .i64 1,.int .i64 a,.int .i64 b,.int .i64 c,.int .i64 d,.int .i64 ents,.slice none 0 0,l,rv,qv,sv]] w
   fun e w'=>e=.returned (.bool true)∧Below base w w'∧∃ lv' ps',ps'.length≤ps.length+1∧Inv base w' wb lv' ps' bk:=by
 have hbl:base≤w.heap.size:=Nat.le_trans h.blo (Nat.le_of_lt h.wlt);obtain⟨W,hW⟩:∃ W,W=w.alloc (.cells #[.int .i64 1,.int .i64 a,.int .i64 b,.int .i64 c,.int .i64 d,.int .i64 ents,.slice none 0 0,l,rv,qv,sv] 41):=⟨_,rfl⟩;have hb:Below w.heap.size w W:=by rw[hW];exact(Below.refl _ _).alloc (Nat.le_refl _) _
 have hWs:W.heap.size=w.heap.size+1:=by rw[hW];simp
 have c0:W.cell? ⟨w.heap.size,0,none⟩=some (.int .i64 1):=by rw[hW];simp[go_sem]
 have c5:W.cell? ⟨w.heap.size,5,none⟩=some (.int .i64 ents):=by rw[hW];simp[go_sem]
 have c6:W.cell? ⟨w.heap.size,6,none⟩=some (.slice none 0 0):=by rw[hW];simp[go_sem]
 go_enter Tryz.func15,Tryz.ntmps15
 go_wp2_with fail
 rw[←hW];refine(jT ents _).mono ?_;rintro e w1 ⟨rfl,hb1⟩;have hz1:=hb1.size;have d0:=aA hb1 c0 (by omega)
 have d5:=aA hb1 c5 (by omega)
 have d6:=aA hb1 c6 (by omega)
 have hB1:Below w.heap.size w w1:=hb.trans (hb1.mono (by omega))
 have hlt1:w.heap.size<w1.heap.size:=by omega
 clear c0 c5 c6
 go_wp2_with fail
 have hm:=(Below.refl w1.heap.size w1).alloc (Nat.le_refl _) (.cells #[.int .i64 ents,.slice none 0 0] 38);have hkn:∀ (W:World) (B:Nat),KindsV B W (.slice none 0 0) []:=fun W B=>⟨by simp,.inl ⟨rfl,rfl⟩⟩
 refine(rN ents _ [] _ (hkn _ _)).mono ?_;rintro e w2 ⟨rfl,hb2⟩;rw[iJ];have hz2:=hb2.size;rw[World.size_alloc]at hz2;have e5:=aA hb2 (aA hm d5 (by omega)) (by simp;omega)
 have e6:=aA hb2 (aA hm d6 (by omega)) (by simp;omega)
 have m0:w2.cell? ⟨w1.heap.size,0,none⟩=some (.int .i64 ents):=aA hb2 (by simp[go_sem]) (by simp)
 have m1:w2.cell? ⟨w1.heap.size,1,none⟩=some (.slice none 0 0):=aA hb2 (by simp[go_sem]) (by simp)
 have hB2:Below w.heap.size w w2:=hB1.trans ((hm.mono (by omega)).trans (hb2.mono (by simp;omega)))
 clear d0 d5 d6
 go_wp2_with fail
 refine(fO ents _ [] _ (hkn _ _)).mono ?_;rintro e w3 ⟨rfl,hb3⟩;rw[iJ];have hz3:=hb3.size;have f5:=aA hb3 e5 (by omega)
 have f6:=aA hb3 e6 (by omega)
 have n0:=aA hb3 m0 (by omega)
 have n1:=aA hb3 m1 (by omega)
 have hB3:Below w.heap.size w w3:=hB2.trans (hb3.mono (by omega))
 clear e5 e6 m0 m1;generalize wR ents []=vE;generalize wS ents []=vK;generalize wT ents []=vP
 go_wp2_with fail
 refine(iR ents _ _ _).mono ?_;rintro e w4 ⟨rfl,hb4⟩;have hB4:Below w.heap.size w w4:=hB3.trans (hb4.mono (by omega))
 go_wp2
 go_ret;exact⟨by simp,hB4.mono hbl,lv,ps,by omega,h.below hB4⟩
theorem lL{base:Nat}(wb:Nat)(lv:Value)(ps:List Pair)(bk:BookD)(a b c d ents:Int)(ka:Addr)(kb koff kcap:Nat)(ks:List (List Ins))(l rv qv sv:Value)(w:World)(h:Inv base w wb lv ps bk)(hka:0<ks.length→ka=⟨kb,koff,none⟩)(hkl:ks.length≤5864062014805)(hkb:kb<base)(hK:KindsAt base w kb koff ks) :
  Calls Tryz.prog 15 #[.pointer (some ⟨wb,0,none⟩),.agg #[.int .i64 1,.int .i64 a,.int .i64 b,.int .i64 c,.int .i64 d,.int .i64 ents,.slice (some ka) ks.length kcap,l,rv,qv,sv]] w
   fun e w'=>e=.returned (.bool true)∧Below base w w'∧∃ lv' ps',ps'.length≤ps.length+1∧Inv base w' wb lv' ps' bk:=by
 have hbl:base≤w.heap.size:=Nat.le_trans h.blo (Nat.le_of_lt h.wlt);obtain⟨W,hW⟩:∃ W,W=w.alloc (.cells #[.int .i64 1,.int .i64 a,.int .i64 b,.int .i64 c,.int .i64 d,.int .i64 ents,.slice (some ka) ks.length kcap,l,rv,qv,sv] 41):=⟨_,rfl⟩;have hb:Below w.heap.size w W:=by rw[hW];exact(Below.refl _ _).alloc (Nat.le_refl _) _
 have hWs:W.heap.size=w.heap.size+1:=by rw[hW];simp
 have c0:W.cell? ⟨w.heap.size,0,none⟩=some (.int .i64 1):=by rw[hW];simp[go_sem]
 have c5:W.cell? ⟨w.heap.size,5,none⟩=some (.int .i64 ents):=by rw[hW];simp[go_sem]
 have c6:W.cell? ⟨w.heap.size,6,none⟩=some (.slice (some ka) ks.length kcap):=by rw[hW];simp[go_sem]
 have HK:Hid (∀ W:World,Below w.heap.size w W→KindsAt W.heap.size W kb koff ks):=by
  intro W hW;have:=hW.size;exact(hK.below (hW.mono hbl) hkb (Nat.le_refl _)).mono (by omega)
 clear hK
 go_enter Tryz.func15,Tryz.ntmps15
 go_wp2_with fail
 rw[←hW];refine(fI ents ka kb koff kcap ks _ hka hkl (by omega) (HK.out W hb)).mono ?_
 rintro e w1 ⟨g,hh,rs,rfl,hb1,hL1⟩;have hz1:=hb1.size;have d0:=aA hb1 c0 (by omega)
 have d5:=aA hb1 c5 (by omega)
 have d6:=aA hb1 c6 (by omega)
 have hB1:Below w.heap.size w w1:=hb.trans (hb1.mono (by omega))
 have hlt1:w.heap.size<w1.heap.size:=by omega
 have HL1:=aB hL1;clear c0 c5 c6 hL1
 go_wp2_with fail
 have hm:=(Below.refl w1.heap.size w1).alloc (Nat.le_refl _) (.cells #[.int .i64 ents,.slice (some ⟨g,0,none⟩) ks.length (ks.length+8)] 38);have HLm:=aB (HL1.out.below hm);refine(rN ents _ ks _ ⟨hkl,.inr (.inl ⟨g,0,_,rfl,HLm.out.ghi,HLm.out.kinds⟩)⟩).mono ?_;rintro e w2 ⟨rfl,hb2⟩;rw[iJ];have hz2:=hb2.size;rw[World.size_alloc]at hz2;have e5:=aA hb2 (aA hm d5 (by omega)) (by simp;omega)
 have e6:=aA hb2 (aA hm d6 (by omega)) (by simp;omega)
 have m0:w2.cell? ⟨w1.heap.size,0,none⟩=some (.int .i64 ents):=aA hb2 (by simp[go_sem]) (by simp)
 have m1:w2.cell? ⟨w1.heap.size,1,none⟩=some (.slice (some ⟨g,0,none⟩) ks.length (ks.length+8)):=aA hb2 (by simp[go_sem]) (by simp)
 have hB2:Below w.heap.size w w2:=hB1.trans ((hm.mono (by omega)).trans (hb2.mono (by simp;omega)))
 have HL2:=aB (HLm.out.below hb2);clear d0 d5 d6
 go_wp2_with fail
 refine(fO ents _ ks _ (nR hka hkl (by omega) (HK.out _ hB2))).mono ?_
 rintro e w3 ⟨rfl,hb3⟩;rw[iJ];have hz3:=hb3.size;have f5:=aA hb3 e5 (by omega)
 have f6:=aA hb3 e6 (by omega)
 have n0:=aA hb3 m0 (by omega)
 have n1:=aA hb3 m1 (by omega)
 have hB3:Below w.heap.size w w3:=hB2.trans (hb3.mono (by omega))
 have HL3:=aB (HL2.out.below hb3);clear e5 e6 m0 m1;generalize wR ents ks=vE;generalize wS ents ks=vK;generalize wT ents ks=vP
 go_wp2_with fail
 refine(eP ents ka _ _ g hh kb koff kcap rs ks _ hka hkl HL3.out).mono ?_;rintro e w4 ⟨rfl,ho4⟩;have hB4:Below w.heap.size w w4:=hB3.trans (ho4.below (by omega) (by
  rintro k hk (rfl|⟨i,hi⟩)
  ·have:=HL3.out.glo;omega
  ·have hilt:i<ks.length:=by have:=(List.getElem?_eq_some_iff.1 hi).1;rw[HL3.out.len]at this;exact this
   have:=(HL3.out.code i k ks[i] hi (by simp[hilt])).2.2.1;omega))
 go_wp2
 go_ret;exact⟨by simp,hB4.mono hbl,lv,ps,by omega,h.below hB4⟩
theorem vI(l:List Int):dN l=cO l:=rfl
theorem iL(ents:Int):bE ents []=some (0,0):=by
 unfold bE;rw[if_pos];simp[inB]
theorem xC{base:Nat}(wb:Nat)(lv:Value)(ps:List Pair)(bk:BookD)(a b c d ents:Int)(l:Value)(draws:List Int)(rv qv sv:Value)(w:World)(h:Inv base w wb lv ps bk)(hd:IntsX base w l draws) :
  Calls Tryz.prog 15 #[.pointer (some ⟨wb,0,none⟩),.agg #[.int .i64 2,.int .i64 a,.int .i64 b,.int .i64 c,.int .i64 d,.int .i64 ents,.slice none 0 0,l,rv,qv,sv]] w
   fun e w'=>e=.returned (.bool true)∧Below base w w'∧∃ lv' ps',ps'.length≤ps.length+1∧Inv base w' wb lv' ps' bk:=by
 have hbl:base≤w.heap.size:=Nat.le_trans h.blo (Nat.le_of_lt h.wlt);obtain⟨W,hW⟩:∃ W,W=w.alloc (.cells #[.int .i64 2,.int .i64 a,.int .i64 b,.int .i64 c,.int .i64 d,.int .i64 ents,.slice none 0 0,l,rv,qv,sv] 41):=⟨_,rfl⟩;have hb:Below w.heap.size w W:=by rw[hW];exact(Below.refl _ _).alloc (Nat.le_refl _) _
 have hWs:W.heap.size=w.heap.size+1:=by rw[hW];simp
 have c0:W.cell? ⟨w.heap.size,0,none⟩=some (.int .i64 2):=by rw[hW];simp[go_sem]
 have c5:W.cell? ⟨w.heap.size,5,none⟩=some (.int .i64 ents):=by rw[hW];simp[go_sem]
 have c6:W.cell? ⟨w.heap.size,6,none⟩=some (.slice none 0 0):=by rw[hW];simp[go_sem]
 have c7:W.cell? ⟨w.heap.size,7,none⟩=some l:=by rw[hW];simp[go_sem]
 obtain⟨la,lc,rfl⟩:=hd.form;have HD:Hid (∀ W:World,Below w.heap.size w W→IntsX base W (.slice la draws.length lc) draws):=by
  intro W hW;exact hd.below (hW.mono hbl)
 have hdl:=hd.len;clear hd;have hkn:∀ (W:World) (B:Nat),KindsV B W (.slice none 0 0) []:=fun W B=>⟨by simp,.inl ⟨rfl,rfl⟩⟩
 go_enter Tryz.func15,Tryz.ntmps15
 go_wp2_with fail
 rw[←hW];refine(jT ents _).mono ?_;rintro e w1 ⟨rfl,hb1⟩;have hz1:=hb1.size;have d0:=aA hb1 c0 (by omega)
 have d5:=aA hb1 c5 (by omega)
 have d6:=aA hb1 c6 (by omega)
 have d7:=aA hb1 c7 (by omega)
 have hB1:Below w.heap.size w w1:=hb.trans (hb1.mono (by omega))
 have hlt1:w.heap.size<w1.heap.size:=by omega
 clear c0 c5 c6 c7 hW
 go_wp2_with fail
 have hm:=(Below.refl w1.heap.size w1).alloc (Nat.le_refl _) (.cells #[.int .i64 ents,.slice none 0 0] 38);refine(dZ _ draws _ (HD.out _ (hB1.trans (hm.mono (by omega))))).mono ?_
 rintro e w2 ⟨sa,sc,rfl,hb2,hLV⟩;have hz2:=hb2.size;rw[World.size_alloc]at hz2;have e0:=aA hb2 (aA hm d0 (by omega)) (by simp;omega)
 have e5:=aA hb2 (aA hm d5 (by omega)) (by simp;omega)
 have e6:=aA hb2 (aA hm d6 (by omega)) (by simp;omega)
 have e7:=aA hb2 (aA hm d7 (by omega)) (by simp;omega)
 have m0:w2.cell? ⟨w1.heap.size,0,none⟩=some (.int .i64 ents):=aA hb2 (by simp[go_sem]) (by simp)
 have m1:w2.cell? ⟨w1.heap.size,1,none⟩=some (.slice none 0 0):=aA hb2 (by simp[go_sem]) (by simp)
 have hB2:Below w.heap.size w w2:=hB1.trans ((hm.mono (by omega)).trans (hb2.mono (by simp;omega)))
 have HLV:=aB hLV;rw[World.size_alloc]at HLV;clear d0 d5 d6 d7 hLV
 go_wp2_with fail
 refine(kT (B:=0) ents _ _ [] _ (hkn _ _) (0,0) (iL ents)).mono ?_;rintro e w3 ⟨rfl,hb3⟩;have hz3:=hb3.size;have f5:=aA hb3 e5 (by omega)
 have f6:=aA hb3 e6 (by omega)
 have f7:=aA hb3 e7 (by omega)
 have n0:=aA hb3 m0 (by omega)
 have n1:=aA hb3 m1 (by omega)
 have hB3:Below w.heap.size w w3:=hB2.trans (hb3.mono (by omega))
 clear e0 e5 e6 e7 m0 m1
 go_wp2_with fail
 refine(lA ents _ _ [] _ (hkn _ _) (0,0) (iL ents)).mono ?_;rintro e w4 ⟨rfl,hb4⟩;have hz4:=hb4.size;have g5:=aA hb4 f5 (by omega)
 have g6:=aA hb4 f6 (by omega)
 have g7:=aA hb4 f7 (by omega)
 have p0:=aA hb4 n0 (by omega)
 have p1:=aA hb4 n1 (by omega)
 have hB4:Below w.heap.size w w4:=hB3.trans (hb4.mono (by omega))
 clear f5 f6 f7 n0 n1
 go_wp2_with fail
 refine(iR ents _ _ _).mono ?_;rintro e w5 ⟨rfl,hb5⟩;have hz5:=hb5.size;have q7:=aA hb5 g7 (by omega)
 have hB5:Below w.heap.size w w5:=hB4.trans (hb5.mono (by omega))
 clear g5 g6 g7 p0 p1
 go_wp2_with fail
 refine(eI (w1.heap.size+1) w5.heap.size _ draws sa sc _ ((HD.out _ hB5).mono (by omega)) (((HLV.out.below hb3).below hb4).below hb5) (by
  intro g hg;rcases HLV.out with⟨_,h0,_⟩|⟨g',h1,_,_,_,h5,_⟩
  ·rw[h0]at hg;cases hg
  ·rw[h1]at hg;simp at hg;omega)).mono ?_
 rintro e w6 ⟨rfl,ho6⟩;have hB6:Below w.heap.size w w6:=hB5.trans (ho6.below (by omega) (by intro k hk hs;omega))
 go_wp2_with fail
 refine(lZ wb _).mono ?_;rintro e w7 ⟨rfl,rfl⟩
 go_wp2
 go_ret;exact⟨by simp,hB6.mono hbl,lv,ps,by omega,h.below hB6⟩
theorem yF(ents:Int)(b off cap:Nat)(da:Addr)(dc:Nat)(ks:List (List Ins))(w:World)(hl:ks.length≤5864062014805)(hbw:b<w.heap.size)(hK:KindsAt w.heap.size w b off ks)(hk:bE ents ks=none) :
  Calls Tryz.prog 27 #[.agg #[.int .i64 ents,.slice (some ⟨b,off,none⟩) ks.length cap],.slice (some da) 0 dc] w
   fun e w'=>∃ rb,e=.returned (.tuple #[.pointer (some ⟨rb,0,none⟩),.int .i64 0])∧Below w.heap.size w w'∧w.heap.size≤rb∧rb<w'.heap.size ∧
    RefK (fun b=>w.heap.size≤b∧b<w'.heap.size∧b≠rb) w' rb ents ks [] 0 0 1 (List.replicate (ents*4).toNat 0) []:=by
 have hents:1≤ents∧ents≤8:=by
  unfold bE at hk
  split at hk
  ·simp at hk
  ·rename_i h;simp[inB]at h;omega
 obtain⟨he1,he2⟩:=hents;have HV:Hid (bO ents ks=.tuple #[.int .i64 0,.int .i64 0,.int .i64 0]):=by show _=_;simp[bO,hk]
 clear hk;have hmk:∀ W:World,(Instr.makeSlice 24 (.int .i64 (ents*4)) (.int .i64 (ents*4))).run Tryz.prog W=.ok (.slice (some ⟨W.heap.size,0,none⟩) (ents*4).toNat (ents*4).toNat) (W.alloc (.cells (madeCells #[.int .i64 0] (ents*4).toNat) 3)):=by
  intro W;obtain⟨i,hi,hz,hsz,hby⟩:=info_parts Tryz.info3;have:=run_make (P:=Tryz.prog) W 24 3 i (.int .i64 0) Tryz.underlying24 hi hz .i64 .i64 (ents*4) (ents*4) (by omega) (Int.le_refl _) (by rw[hby];omega) (by omega)
  rw[hsz]at this;simp only[Nat.mul_one]at this;exact this
 have hwrap:IntKind.i64.wrap (ents*4)=ents*4:=by rw[IntKind.wrap_i64];omega
 go_enter Tryz.func27,Tryz.ntmps27
 go_wp2_with fail
 have hv:KindsV w.heap.size w (.slice (some ⟨b,off,none⟩) ks.length cap) ks:=⟨hl,.inr (.inl ⟨b,off,cap,rfl,hbw,hK⟩)⟩;refine(fO ents _ ks _ ((hv.below ((Below.refl _ _).alloc (Nat.le_refl _) _)).mono (by simp))).mono ?_
 rintro e w1 ⟨rfl,hb1⟩;rw[HV.out];have hb2:Below w.heap.size w w1:=((Below.refl _ _).alloc (Nat.le_refl _) _).trans (hb1.mono (by simp))
 have hm0:w1.cell? ⟨w.heap.size,0,none⟩=some (.int .i64 ents):=aA hb1 (by simp[go_sem]) (by simp)
 have hm1:w1.cell? ⟨w.heap.size,1,none⟩=some (.slice (some ⟨b,off,none⟩) ks.length cap):=aA hb1 (by simp[go_sem]) (by simp)
 have hz1:w.heap.size<w1.heap.size:=by have:=hb1.size;simp at this;omega
 clear hb1
 go_wp2
 go_loopw [9,10,11] (fun lv i _ wr=>i=.int .i64 0∧lv=.slice none 0 0∧Below w1.heap.size w1 wr) (fun _ _ _ _=>0)
 case atStart=>exact⟨rfl,rfl,Below.refl _ _⟩
 case round=>
  obtain⟨rfl,rfl,hbel⟩:=hrel;have Hdr:Hid (IntsIn (fun b=>w.heap.size≤b∧b<wr.heap.size) wr (.slice none 0 0) []):=⟨by simp,.inl ⟨rfl,rfl⟩⟩
  have gm0:=aA hbel hm0 hz1;have gm1:=aA hbel hm1 hz1;have hbb:=hb2.trans (hbel.mono (by omega))
  have hzr:w.heap.size<wr.heap.size:=by have:=hbel.size;omega
  have HK:Hid (∀ W,Below wr.heap.size wr W→KindsAt W.heap.size W b off ks):=by
   intro W hW;have:=hW.size;exact(hK.below (hbb.trans (hW.mono (by omega))) hbw (Nat.le_refl _)).mono (by omega)
  clear hm0 hm1
  go_wp2
  go_region_with (go_at_call 63;refine(kQ ents b off cap ks _ hl (by simp;omega) (HK.out _ (by first|exact(Below.refl _ _).drew|exact((Below.refl _ _).alloc (Nat.le_refl _) _).drew|exact((Below.refl _ _).drew).alloc (Nat.le_refl _) _))).mono ?_;rintro e w3 ⟨sa,sc,rfl,hb3,hK3⟩;have q0:w3.cell? ⟨w.heap.size,0,none⟩=some (.int .i64 ents):=aA hb3 (by first|exact gm0|exact aA ((Below.refl _ _).alloc (Nat.le_refl _) _) gm0 hzr) (by simp;omega);have q1:w3.cell? ⟨w.heap.size,1,none⟩=some (.slice (some ⟨b,off,none⟩) ks.length cap):=aA hb3 (by first|exact gm1|exact aA ((Below.refl _ _).alloc (Nat.le_refl _) _) gm1 hzr) (by simp;omega))
  all_goals
   go_wp2
   go_ret2
   first
    | (have hb3':Below wr.heap.size wr w3:=(Below.refl _ _).drew.trans hb3
       exact⟨w3.heap.size+1,by simp[Act.put],vN hbb hb3' hK3 Hdr.out _ _ (by omega)⟩)
    | (have hb3':Below (wr.heap.size+1) (wr.alloc (.cells (madeCells #[.int .i64 0] (ents*4).toNat) 3)) w3:=(Below.refl _ _).drew.trans (by simpa using hb3)
       exact⟨w3.heap.size,by simp[Act.put],vO hbb hb3' (by simpa using hK3) Hdr.out _ (by omega)⟩)
theorem nS(ents:Int)(b off cap:Nat)(dv:Value)(ks:List (List Ins))(draws:List Int)(w:World)(hl:ks.length≤5864062014805)(hbw:b<w.heap.size)(hK:KindsAt w.heap.size w b off ks)(hd:IntsX w.heap.size w dv draws)(hk:bE ents ks=none) :
  Calls Tryz.prog 27 #[.agg #[.int .i64 ents,.slice (some ⟨b,off,none⟩) ks.length cap],dv] w
   fun e w'=>(dN draws=false∧e=.returned (.tuple #[.pointer none,.int .i64 1])∧Below w.heap.size w w')∨(dN draws=true∧∃ rb,e=.returned (.tuple #[.pointer (some ⟨rb,0,none⟩),.int .i64 0])∧Below w.heap.size w w'∧w.heap.size≤rb∧rb<w'.heap.size ∧
    RefK (fun b=>w.heap.size≤b∧b<w'.heap.size∧b≠rb) w' rb ents ks draws 0 0 1 (List.replicate (ents*4).toNat 0) []):=by
 rcases hd with hd|⟨da,dc,rfl,rfl⟩
 ·exact aCi ents b off cap dv ks draws w hl hbw hK hd hk
 ·refine(yF ents b off cap da dc ks w hl hbw hK hk).mono ?_;rintro e w' h;exact .inr ⟨rfl,h⟩
end Go.Proofs.YtndlmgocldckfaaGreat
