import Derived.Test.YtndlmgocldckfaaGreatG41
import Derived.Deep.RegionHeld3
import Derived.Deep.CutRange
import Derived.Deep.DeepCutAuto
import Derived.Test.YtndlmgocldckfaaGreatG20
namespace Go.Proofs.YtndlmgocldckfaaGreat
open Go.RowKit
set_option linter.unusedVariables false
set_option linter.unusedSimpArgs false
set_option maxRecDepth 100000
set_option maxHeartbeats 4000000
theorem KindsIn.where{R:Nat→Prop}{w:World}{v:Value}{ks:List (List Ins)}(h:KindsIn R w v ks)(hk:1≤ks.length):∃ b off cap,v=.slice (some ⟨b,off,none⟩) ks.length cap∧R b∧∀ B,(∀ x,R x→x<B)→KindsAt B w b off ks:=by
 obtain⟨hl,⟨rfl,rfl⟩|⟨b,off,cap,rfl,hb,hr⟩⟩:=h
 ·simp at hk
 ·refine⟨b,off,cap,rfl,hb,fun B hB i l hi=>?_⟩;obtain⟨v,hv,hc⟩:=hr i l hi;exact⟨v,hv,hc.toV hB⟩
def LKer(lo:Nat)(w:World)(xk:Nat)(ents:Int)(ks:List (List Ins))(draws:List Int)(s:KS):Prop:=
 ∃ qb mb ov R base,(lo≤base∧base≤w.heap.size)∧(∀ x,bG xk qb mb ov x→base≤x)∧(∀ x,R x→base≤x)∧KerP R base w xk qb mb ov ents ks draws s
theorem LKer.only{lo:Nat}{w w':World}{xk:Nat}{ents:Int}{ks:List (List Ins)}{draws:List Int}{s:KS}{S:Nat→Prop}(h:LKer lo w xk ents ks draws s)(ho:Only S w w')(hS:∀ x,lo≤x→¬S x):LKer lo w' xk ents ks draws s:=by
 obtain⟨qb,mb,ov,R,base,⟨h1,h2⟩,h3,h4,h5⟩:=h;have:=ho.size;exact⟨qb,mb,ov,R,base,⟨h1,by omega⟩,h3,h4,h5.only ho (fun b hb=>hS b (by have:=h3 b hb;omega)) (fun b hb=>hS b (by have:=h4 b hb;omega))⟩
def LRef(lo:Nat)(w:World)(xr:Nat)(ents:Int)(ks:List (List Ins))(draws:List Int)(s:KS):Prop:=
 ∃ R,lo≤xr∧xr<w.heap.size∧(∀ x,R x→lo≤x∧x<w.heap.size∧x≠xr)∧RefK R w xr ents ks draws s.taken s.clock s.next (cY ents s) s.q
theorem aC9{base:Nat}(wb:Nat)(lv:Value)(ps:List Pair)(k:BkD)(J:Nat)(i:Nat)(p:Pair)(w:World)(h:Inv base w wb lv ps (aP k))(hi:ps[i]?=some p)(hG:BkLen J k)(hJ:J≤2000000)(hlen:(ps.length+1)*16≤140737488355328) :
  Calls Tryz.prog 54 #[.pointer (some ⟨wb,0,none⟩),.agg #[.pointer (some ⟨p.kb,0,none⟩),.pointer (some ⟨p.rb,0,none⟩)]] w
   fun e w'=>e=.returned (.bool true)∧Below base w w'∧Only (fun b=>b=wb∨k.set b∨some b=lv.ownBlock) w w'∧∃ lv' ps' k',ps'.length≤ps.length+1∧Inv base w' wb lv' ps' (aP k')∧BkLen (J+1) k':=by
 have hpm:p∈ps:=List.mem_of_getElem? hi;have hOK:=h.pairs p hpm;obtain⟨⟨he1,he8⟩,hk1,hk8⟩:=gK hOK.kind;have hdl:=dW hOK.draw;have hsz:=h.lo;have hwl:=h.wlt;obtain⟨W,hW⟩:∃ W,W=w.alloc (.cells #[.pointer (some ⟨p.kb,0,none⟩),.pointer (some ⟨p.rb,0,none⟩)] 52):=⟨_,rfl⟩;have hb:Below w.heap.size w W:=by rw[hW];exact(Below.refl _ _).alloc (Nat.le_refl _) _
 have hWs:W.heap.size=w.heap.size+1:=by rw[hW];simp
 have c1:W.cell? ⟨w.heap.size,1,none⟩=some (.pointer (some ⟨p.rb,0,none⟩)):=by rw[hW];simp[go_sem]
 have HI:=aB (h.below hb);have HO:=aB (HI.out.pairs p hpm);have HB:=aB hb;have HG:=aB hG;have g3:=hG.bl;have hby:=vG hOK.fit.ok ⟨he1,he8⟩ hk8 hdl hOK.fit.q.sorted;have hrlt:=hOK.rlt;have hRlt:∀ x,p.rR x→x<w.heap.size:=fun x hx=>(hOK.sepr x hx).1;have Hres:=aB (aDv hOK.kind hOK.draw hOK.fit hOK.regz);have HSv:=aB (zI p.kb p.qb p.mb p.ov p.ents p.ks p.draws p.s W HO.out.ker HO.out.fit.ok hk8 ⟨he1,he8⟩ hdl HO.out.fit.q.sorted);have hlen6:(dL p.ents p.ks.length p.s).length≤2000:=pY hOK.fit.ok ⟨he1,he8⟩;obtain⟨⟨kv,dv,rv,qv,h0,h1,h2,h3,h4,h5,h6,h7,hkk,hdd,hrr,hqq⟩,hroom⟩:=hOK.ref;obtain⟨kb0,koff,kcap,rfl,hkR,hKA⟩:=hkk.where hk1;obtain⟨da,dc,rfl⟩:=hdd.form;have HKA:Hid (∀ w':World,Below w.heap.size w w'→KindsAt w'.heap.size w' kb0 koff p.ks∧IntsIn (·<w'.heap.size) w' (.slice da p.draws.length dc) p.draws∧kb0<w'.heap.size):=by
  intro w' hb';have:=hb'.size;have hx:=hRlt kb0 hkR;exact⟨((hKA w.heap.size hRlt).below hb' hx (Nat.le_refl _)).mono this,(hdd.only (Only.new (S:=fun _=>False) hb') (by simp)).mono (fun x hx=>by have:=hRlt x hx;omega),by omega⟩
 have HT:Hid (∀ (w':World) (g cap:Nat),Below w.heap.size w w'→BytesV w' (some ⟨g,0,none⟩) cap (dL p.ents p.ks.length p.s)→Calls Tryz.prog 31 #[.agg #[.int .i64 p.ents,.slice (some ⟨kb0,koff,none⟩) p.ks.length kcap],.slice da p.draws.length dc,.slice (some ⟨g,0,none⟩) (dL p.ents p.ks.length p.s).length cap] w' fun e w2=>∃ xk,e=.returned (.tuple #[.pointer (some ⟨xk,0,none⟩),.int .i64 0])∧Hid (Below w'.heap.size w' w2∧LKer w'.heap.size w2 xk p.ents p.ks p.draws p.s)):=by
  intro w' g cap hb' hB;obtain⟨a1,a2,a3⟩:=HKA.out w' hb';have:=vB p.ents kb0 koff kcap (.slice da p.draws.length dc) p.ks p.draws (some ⟨g,0,none⟩) cap _ w' (by omega) a3 a1 a2 hB
  rw[Hres.out.1,Hres.out.2]at this;refine this.mono ?_;rintro e w2 ⟨pk,rfl,hb2,_,hk2⟩;obtain⟨xk,qb,mb,ov,R,bs,rfl,h1,h2,h3,h4⟩:=hk2 rfl;exact⟨xk,rfl,hb2,qb,mb,ov,R,bs,h1,h2,h3,h4⟩
 generalize hX:dL p.ents p.ks.length p.s=X at HSv hby hlen6 HT;have HX:=aB hX;have Hby:=aB hby;have Hl6:=aB hlen6;clear hOK hb hG hby hX hlen6 h3 h4 h5 h6 h7 hkk hdd hrr hqq hroom hKA
 go_enter Tryz.func54,Tryz.ntmps54
 go_wp2_with fail
 rw[←hW];refine HSv.out.mono ?_;rintro e w1 ⟨v,rfl,hb1,hrow⟩;have hz1:=hb1.size;obtain⟨g,cap,rfl⟩:=hrow.form;have Hrow:=aB hrow;have hB1:Below w.heap.size w w1:=HB.out.trans (hb1.mono (by omega))
 have hglt:=hrow.lt g rfl;have x1:=aA hb1 c1 (by omega)
 have y0:=aA hB1 h0 hrlt;have y1:=aA hB1 h1 hrlt;have y2:=aA hB1 h2 hrlt;have HByt:Hid (∀ w',Below w1.heap.size w1 w'→BytesV w' (some ⟨g,0,none⟩) cap X):=by
  intro w' hb';obtain⟨g',cap',cur,fz,e,_,_,_,hc,hm,_⟩:=hrow.keep (Only.new (S:=fun _=>False) hb') (by simp)
  obtain⟨g2,cap2,e2,_,hg2,hr⟩:=(hrow.keep (Only.new (S:=fun _=>False) hb') (by simp)).row
  simp only[Value.slice.injEq,Option.some.injEq,Addr.mk.injEq,and_true,true_and]at e e2;obtain⟨rfl,rfl⟩:=e;obtain⟨rfl,_⟩:=e2;exact⟨by have:=Hl6.out;omega,hc,Hby.out,fun _=>⟨g,0,rfl,hr,hg2⟩⟩
 have HTT:Hid (∀ w',Below w1.heap.size w1 w'→Calls Tryz.prog 31 #[.agg #[.int .i64 p.ents,.slice (some ⟨kb0,koff,none⟩) p.ks.length kcap],.slice da p.draws.length dc,.slice (some ⟨g,0,none⟩) X.length cap] w' fun e w2=>∃ xk,e=.returned (.tuple #[.pointer (some ⟨xk,0,none⟩),.int .i64 0])∧Hid (Below w1.heap.size w1 w2∧LKer w1.heap.size w2 xk p.ents p.ks p.draws p.s)):=by
  intro w' hb';refine(HT.out w' g cap (hB1.trans (hb'.mono (by have:=hB1.size;omega))) (HByt.out w' hb')).mono ?_
  rintro e w2 ⟨xk,rfl,hz⟩;refine⟨xk,rfl,hb'.trans (hz.out.1.mono hb'.size),?_⟩;obtain⟨qb,mb,ov,R,bs,⟨a1,a2⟩,a3,a4,a5⟩:=hz.out.2;exact⟨qb,mb,ov,R,bs,⟨by have:=hb'.size;omega,a2⟩,a3,a4,a5⟩
 have HB1:=aB hB1;have HM:Hid (∀ W',Below w1.heap.size w1 W'→(Below w1.heap.size w1 W'∧W'.cell? ⟨w.heap.size,1,none⟩=some (.pointer (some ⟨p.rb,0,none⟩))∧W'.cell? ⟨p.rb,0,none⟩=some (.int .i64 p.ents)∧W'.cell? ⟨p.rb,1,none⟩=some (.slice (some ⟨kb0,koff,none⟩) p.ks.length kcap)∧W'.cell? ⟨p.rb,2,none⟩=some (.slice da p.draws.length dc))):=
  fun W' hb=>⟨hb,aA hb x1 (by omega),aA hb y0 (by omega),aA hb y1 (by omega),aA hb y2 (by omega)⟩
 clear hrow c1 HSv hB1
 go_wp2_with fail
 go_cut [6,7] (fun s6 s7 wx=>∃ xk,s6=.pointer (some ⟨xk,0,none⟩)∧s7=.int .i64 0∧Hid (Below w1.heap.size w1 wx∧LKer w1.heap.size wx xk p.ents p.ks p.draws p.s))
 case first=>
  go_region_held3 (fun W'=>Below w1.heap.size w1 W'∧W'.cell? ⟨w.heap.size,1,none⟩=some (.pointer (some ⟨p.rb,0,none⟩))∧W'.cell? ⟨p.rb,0,none⟩=some (.int .i64 p.ents)∧W'.cell? ⟨p.rb,1,none⟩=some (.slice (some ⟨kb0,koff,none⟩) p.ks.length kcap)∧W'.cell? ⟨p.rb,2,none⟩=some (.slice da p.draws.length dc))
   (first|exact HM.out _ (Below.refl _ _).drew|exact HM.out _ (hq2.out.1)|exact HM.out _ (jR (by assumption)))
   (first|(go_at_call 31;refine(HTT.out _ ?hbw).mono ?_;(case hbw=>(first|exact(Below.refl _ _).drew|exact gN (by assumption)));rintro e w2 ⟨xk,rfl,hq2⟩))
  go_wp2_with fail
  go_meet;exact⟨xk,rfl,rfl,hq2.out⟩
 case rest=>
  obtain⟨xk,rfl,rfl,hq⟩:=hcut;have hzc:=hq.out.1.size;have hBc:Below w.heap.size w wc:=HB1.out.trans (hq.out.1.mono (by omega))
  have hIc:=h.below hBc;have hrowc:BRow W.heap.size wc (.slice (some ⟨g,0,none⟩) X.length cap) X:=Hrow.out.keep (Only.new (S:=fun _=>False) hq.out.1) (by simp)
  have hk6:=Hl6.out;obtain⟨xq,xm,ov,R,bs,⟨bs1,bs2⟩,hset,hR,hPk⟩:=hq.out.2;have HKx:Hid ((∀ x,bG xk xq xm ov x→w1.heap.size≤x∧x<wc.heap.size)∧(∀ x,R x→w1.heap.size≤x∧x<wc.heap.size)):=⟨fun x hx=>⟨by have:=hset x hx;omega,hPk.lt x hx⟩,fun x hx=>⟨by have:=hR x hx;omega,hPk.rlt x hx⟩⟩
  have HPk:=aB hPk;clear hset hR hPk;have HKb:=aB (fY wb k (some ⟨g,0,none⟩) X.length cap X wc hIc.bkp (.inr hrowc) rfl (by omega) (by omega) HG.out.b4 (by omega) (fun b hb=>by
   have e:b=g:=by simpa [Value.ownBlock]using hb
   rw[e];exact⟨fun hc=>by have:=h.bkp.ok.lt g hc;omega,by omega⟩))
  have HIc:=aB hIc;have xc:=aA hq.out.1 x1 (by omega)
  have HBc:=aB hBc;clear hIc hrowc hBc y0 y1 y2 x1 HTT HT HM HByt hk6
  go_wp2_with fail
  refine HKb.out.mono ?_;rintro e w3 ⟨rfl,k',hst,q1,q2,q3⟩;have hz3:=hst.only.size;have hI3:=HIc.out.bookStep hst (fun b hb=>by
   have e:b=g:=by simpa [Value.ownBlock]using hb
   rw[e];refine⟨by omega,by omega,by omega,fun hc=>?_,fun q hq hc=>?_⟩
   ·have:=(h.owns.lt g hc.symm).2;omega
   ·have:=(h.pairs q hq).lt g hc;omega)
  have hnS:∀ x,w.heap.size≤x→x≠g→¬(x=wb∨k.set x∨some x=(Value.slice (some ⟨g,0,none⟩) X.length cap).ownBlock):=by
   rintro x hx hg (hc|hc|hc)
   ·omega
   ·have:=h.bkp.ok.lt x hc;omega
   ·exact hg (by simpa [Value.ownBlock]using hc)
  have HPk3:=aB (HPk.out.only hst.only (fun x hx=>by have:=HKx.out.1 x hx;exact hnS x (by omega) (by omega)) (fun x hx=>by have:=HKx.out.2 x hx;exact hnS x (by omega) (by omega)))
  have x3:=hst.only.at xc (hnS _ (by simp) (by show w.heap.size≠g;omega))
  have HO3:=aB (hI3.pairs p hpm);have HLen:Hid (BkLen (J+1) k'):=⟨by rw[q3];have:=HG.out.il;omega,by rw[q3];exact HG.out.i4,by rw[q2];have:=HG.out.rl;omega,by rw[q2];exact HG.out.r4,by omega,by have:=HG.out.b4;omega⟩
  have HB3:Hid (Below base w w3):=(HBc.out.mono hsz).trans (hst.only.below (by omega) (by
   rintro x hx (hc|hc|hc)
   ·have:=h.blo;omega
   ·have:=(h.bks x hc).1;omega
   ·have e:x=g:=by simpa [Value.ownBlock]using hc
    omega))
  have HO3w:Hid (Only (fun b=>b=wb∨k.set b∨some b=lv.ownBlock) w w3):=(Only.new HBc.out).chain hst.only (by
   rintro x hx (hc|hc|hc)
   ·exact .inl hc
   ·exact .inr (.inl hc)
   ·have e:x=g:=by simpa [Value.ownBlock]using hc
    omega)
  have Hsub:Hid (∀ b,k'.set b→k.set b∨b=g∨wc.heap.size≤b):=fun b hb=>by
   rcases hst.sub b hb with e|e|e
   ·exact .inl e
   ·exact .inr (.inl (by simpa [Value.ownBlock]using e))
   ·exact .inr (.inr e)
  have HI3:=aB hI3;clear hI3 hst q1 q2 q3 HKb hnS xc h0 h1 h2 hkR HKA;obtain⟨⟨kv,dv,rv',qv',h0,h1,h2,_,_,_,_,_,hkk,hdd,_,_⟩,_⟩:=HO3.out.ref;obtain⟨kb0,koff,kcap,rfl,hkR,hKA⟩:=hkk.where hk1;obtain⟨da,dc,rfl⟩:=hdd.form;have hR3:∀ x,p.rR x→x<w3.heap.size:=fun x hx=>(HO3.out.sepr x hx).1;have hrlt3:=HO3.out.rlt;have HTR:Hid (∀ w',Below w3.heap.size w3 w'→Calls Tryz.prog 32 #[.agg #[.int .i64 p.ents,.slice (some ⟨kb0,koff,none⟩) p.ks.length kcap],.slice da p.draws.length dc,.string (aH X)] w' fun e w2=>∃ xr,e=.returned (.tuple #[.pointer (some ⟨xr,0,none⟩),.int .i64 0])∧Hid (Below w3.heap.size w3 w2∧LRef w3.heap.size w2 xr p.ents p.ks p.draws p.s)):=by
   intro w' hb';have hz':=hb'.size;have hx:=hR3 kb0 hkR;have:=vC p.ents ⟨kb0,koff,none⟩ kb0 koff kcap (.slice da p.draws.length dc) p.ks p.draws X w' (fun _=>rfl) (by omega) (by omega) (((hKA w3.heap.size hR3).below hb' hx (Nat.le_refl _)).mono hz') (.inl ((hdd.only (Only.new (S:=fun _=>False) hb') (by simp)).mono (fun x hx=>by have:=hR3 x hx;omega))) Hby.out (by have:=Hl6.out;omega)
   rw[←HX.out]at this;rw[Hres.out.1,Hres.out.2]at this;rw[HX.out]at this;refine this.mono ?_;rintro e w2 ⟨pr,rfl,hb2,_,hr2⟩;obtain⟨_,_,_,_,xr,R,rfl,a1,a2,a3,a4⟩:=hr2 rfl;exact⟨xr,rfl,hb'.trans (hb2.mono hz'),R,by omega,a2,fun x hx=>by have:=a3 x hx;omega,a4⟩
  have HSR:Hid (∀ w',Below w3.heap.size w3 w'→Calls Tryz.prog 53 #[.pointer (some ⟨p.rb,0,none⟩)] w' fun e w2=>e=.returned (.string (aH X))∧Hid (Below w3.heap.size w3 w2)):=by
   intro w' hb';have:=pM p.rb p.ents p.ks p.draws p.s w' (HO3.out.ref.only (Only.new (S:=fun _=>False) hb') (by simp) (by simp)) HO3.out.fit.ok hk8 ⟨he1,he8⟩ hdl HO3.out.fit.q.sorted
   rw[HX.out]at this;refine this.mono ?_;rintro e w2 ⟨rfl,hb2⟩;exact⟨rfl,hb'.trans (hb2.mono hb'.size)⟩
  have HM:Hid (∀ W',Below w3.heap.size w3 W'→(Below w3.heap.size w3 W'∧W'.cell? ⟨w.heap.size,1,none⟩=some (.pointer (some ⟨p.rb,0,none⟩))∧W'.cell? ⟨p.rb,0,none⟩=some (.int .i64 p.ents)∧W'.cell? ⟨p.rb,1,none⟩=some (.slice (some ⟨kb0,koff,none⟩) p.ks.length kcap)∧W'.cell? ⟨p.rb,2,none⟩=some (.slice da p.draws.length dc))):=
   fun W' hb=>⟨hb,aA hb x3 (by omega),aA hb h0 hrlt3,aA hb h1 hrlt3,aA hb h2 hrlt3⟩
  clear hkk hdd hKA
  go_wp2_with fail
  go_cut [8,9] (fun s8 s9 wx=>∃ xr,s8=.pointer (some ⟨xr,0,none⟩)∧s9=.int .i64 0∧Hid (Below w3.heap.size w3 wx∧LRef w3.heap.size wx xr p.ents p.ks p.draws p.s))
  case first=>
   go_region_held3 (fun W'=>Below w3.heap.size w3 W'∧W'.cell? ⟨w.heap.size,1,none⟩=some (.pointer (some ⟨p.rb,0,none⟩))∧W'.cell? ⟨p.rb,0,none⟩=some (.int .i64 p.ents)∧W'.cell? ⟨p.rb,1,none⟩=some (.slice (some ⟨kb0,koff,none⟩) p.ks.length kcap)∧W'.cell? ⟨p.rb,2,none⟩=some (.slice da p.draws.length dc))
    (first|exact HM.out _ (Below.refl _ _).drew|exact HM.out _ (hq4.out.1)|exact HM.out _ hq5.out|exact HM.out _ (jR (by assumption)))
    (first
     | (go_at_call 32;refine(HTR.out _ ?hbw).mono ?_;(case hbw=>(first|exact(Below.refl _ _).drew|exact hq5.out|exact gN (by assumption)));rintro e w4 ⟨xr,rfl,hq4⟩)
     | (go_at_call 53;refine(HSR.out _ ?hbw).mono ?_;(case hbw=>(first|exact(Below.refl _ _).drew|exact gN (by assumption)));rintro e w5 ⟨rfl,hq5⟩))
   all_goals
    go_wp2_with fail
    go_meet;exact⟨xr,rfl,rfl,hq4.out⟩
  case rest=>
   obtain⟨xr,rfl,rfl,hr⟩:=hcut;obtain⟨Q,y1,y2,hQ,hPr⟩:=hr.out.2;have hz4:=hr.out.1.size;have hI4:=HI3.out.below hr.out.1;obtain⟨p',hp'⟩:∃ p':Pair,p'=⟨xk,xq,xm,xr,bs,ov,p.ents,p.ks,p.draws,p.s,R,Q⟩:=⟨_,rfl⟩;have hpair:PairOK wc p':=by
    rw[hp'];refine⟨HPk3.out.below hr.out.1,hPr,HO3.out.fit,HO3.out.regz,HO3.out.kind,HO3.out.draw,by show bs≤_;omega,by show xr<_;omega,?_,?_,?_⟩
    ·intro x hx;have hx:Q x:=hx;have:=hQ x hx;exact⟨this.2.1,this.2.2,fun hc=>by have:=HKx.out.1 x hc;omega⟩
    ·intro x hx;have hx:R x:=hx;have:=HKx.out.2 x hx;show x≠xr;omega
    ·intro hc;have:=HKx.out.1 xr hc;omega
   have hfar:∀ b,p'.own b→w1.heap.size≤b∧¬k'.set b:=by
    rw[hp'];have hk:∀ b,w1.heap.size≤b→¬k.set b:=fun b hb hc=>by have:=h.bkp.ok.lt b hc;omega
    have hlo:∀ b,w3.heap.size≤b→¬k'.set b:=fun b hb hc=>by have:=HI3.out.bkp.ok.lt b hc;omega
    rintro b ((hb|hb)|hb|hb)
    ·have hx:=HKx.out.1 b hb;refine⟨hx.1,fun hc=>?_⟩;rcases Hsub.out b hc with e|e|e
     ·exact hk b hx.1 e
     ·omega
     ·omega
    ·have hb:b=xr:=hb;exact⟨by omega,hlo b (by omega)⟩
    ·have hx:=HKx.out.2 b hb;refine⟨hx.1,fun hc=>?_⟩;rcases Hsub.out b hc with e|e|e
     ·exact hk b hx.1 e
     ·omega
     ·omega
    ·have hb:Q b:=hb;have:=hQ b hb;exact⟨by omega,hlo b (by omega)⟩
   have hkb:p'.kb=xk:=by rw[hp']
   have hrb:p'.rb=xr:=by rw[hp']
   have H1:=aFf (base:=base) wb lv ps p' (aP k') wc hI4 hpair (fun b hb=>by
    obtain⟨f1,f2⟩:=hfar b hb;refine⟨by omega,by omega,fun hc=>?_,f2,fun q hq hc=>?_⟩
    ·have:=(h.owns.lt b hc.symm).2;omega
    ·have:=(h.pairs q hq).lt b hc;omega) hlen (by omega)
   rw[hkb,hrb]at H1;have H1:=aB H1;have HB4:Hid (Below base w wc):=HB3.out.trans (hr.out.1.mono (by omega))
   clear hI4 hpair hfar hPr hQ
   go_wp2_with fail
   refine H1.out.mono ?_;rintro e w6 ⟨rfl,hB6,hO6,lv',hI6⟩;have HO6:Hid (Only (fun b=>b=wb∨k.set b∨some b=lv.ownBlock) w w6):=(HO3w.out.trans (Only.new hr.out.1)).trans (hO6.mono (fun b _ hb=>hb.elim .inl (fun e=>.inr (.inr e))));have HI6:=aB hI6;have HB6:=aB hB6;clear hI6 hB6 hO6 H1
   go_wp2
   go_ret;exact⟨by simp,HB4.out.trans HB6.out,HO6.out,lv',_,k',by simp,HI6.out,HLen.out⟩
def yD(s:ByteArray):List Int:=s.data.toList.map fun b=>(b.toNat:Int)
theorem kX(s:ByteArray):∀ c∈yD s,0≤c∧c<256:=by
 intro c hc;obtain⟨b,_,rfl⟩:=List.mem_map.1 hc;have:=b.toNat_lt;omega
theorem pZ(s:ByteArray):(yD s).length=s.size:=by
 show(s.data.toList.map _).length=s.data.size;rw[List.length_map,Array.length_toList]
theorem vJ(s:ByteArray):aH (yD s)=s:=by
 obtain⟨d⟩:=s;have h:∀ b:UInt8,UInt8.ofNat b.toNat=b:=fun b=>UInt8.ofNat_toNat;simp[aH,yD,List.map_map,Function.comp_def,h]
def pG(_:Nat)(_:World)(o:OpD):Prop:=∃ s,o.sv=.string s∧s.size≤1000000000
theorem uQ{base:Nat}(wb:Nat)(lv:Value)(ps:List Pair)(bk:BookD)(o:OpD)(w:World)(h:Inv base w wb lv ps bk)(ho:OpOK base w o)(hS:pG base w o)(hk:o.kind=8)(hlen:(ps.length+1)*16≤140737488355328)(hb0:0<base) :
  Calls Tryz.prog 15 #[.pointer (some ⟨wb,0,none⟩),.agg #[.int .i64 o.kind,.int .i64 o.a,.int .i64 o.b,.int .i64 o.c,.int .i64 o.d,.int .i64 o.ents,o.kv,o.l,o.rv,o.qv,o.sv]] w
   fun e w'=>e=.returned (.bool true)∧Below base w w'∧∃ lv' ps',ps'.length≤ps.length+1∧Inv base w' wb lv' ps' bk:=by
 obtain⟨kind,a,b,c,d,ents,kv,l,rv,qv,sv,ks,draws⟩:=o;obtain⟨⟨hkl,hkk⟩,hd,_,_,_,_,_⟩:=ho;obtain⟨s,hs,hsl⟩:=hS;simp only at hkl hkk hd hk hs ⊢;subst hk hs;rw[←vJ s];have hl:=pZ s;rcases hkk with⟨rfl,rfl⟩|⟨kb,koff,kcap,rfl,hkb,hK⟩|⟨ka,kcap,rfl,rfl⟩
 ·exact uP wb lv ps bk a b c d ents l draws rv qv (yD s) w h hd (kX s) (by omega)
 ·exact vH wb lv ps bk a b c d ents ⟨kb,koff,none⟩ kb koff kcap ks l draws rv qv (yD s) w h (fun _=>rfl) hkl hkb hK hd (kX s) (by omega) hlen
 ·exact vH wb lv ps bk a b c d ents ka 0 0 kcap [] l draws rv qv (yD s) w h (fun h=>by simp at h) hkl hb0 (fun i l hl=>by simp at hl) hd (kX s) (by omega) hlen
theorem aFj{base:Nat}(wb:Nat)(lv:Value)(ps:List Pair)(bk:BookD)(o:OpD)(w:World)(h:Inv base w wb lv ps bk)(ho:OpOK base w o)(hS:pG base w o)(hk:o.kind=8)(hlen:(ps.length+1)*16≤140737488355328)(hb0:0<base) :
  Calls Tryz.prog 11 #[.pointer (some ⟨wb,0,none⟩),.agg #[.int .i64 o.kind,.int .i64 o.a,.int .i64 o.b,.int .i64 o.c,.int .i64 o.d,.int .i64 o.ents,o.kv,o.l,o.rv,o.qv,o.sv]] w
   fun e w'=>e=.returned (.bool true)∧Below base w w'∧∃ lv' ps',ps'.length≤ps.length+1∧Inv base w' wb lv' ps' bk:=by
 have hbl:base≤w.heap.size:=Nat.le_trans h.blo (Nat.le_of_lt h.wlt);obtain⟨W,hW⟩:∃ W,W=w.alloc (.cells #[.int .i64 o.kind,.int .i64 o.a,.int .i64 o.b,.int .i64 o.c,.int .i64 o.d,.int .i64 o.ents,o.kv,o.l,o.rv,o.qv,o.sv] 41):=⟨_,rfl⟩;have hb:Below w.heap.size w W:=by rw[hW];exact(Below.refl _ _).alloc (Nat.le_refl _) _
 have HM:=aB (uQ wb lv ps bk o W (h.below hb) (ho.below (hb.mono hbl)) hS hk hlen hb0);have hk1:(o.kind==1)=false:=by simp[hk]
 have hk2:(o.kind==2)=false:=by simp[hk]
 have hk8:(o.kind==8)=true:=by simp[hk]
 clear hk hS
 go_enter Tryz.func11,Tryz.ntmps11
 go_wp2_with fail
 rw[←hW];refine HM.out.mono ?_;rintro e w1 ⟨rfl,hB,hI⟩;have HI:=aB hI;clear hI
 go_wp2
 go_ret;exact⟨rfl,(hb.mono hbl).trans hB,HI.out⟩
theorem yE{base:Nat}(wb:Nat)(lv:Value)(ps:List Pair)(k:BkD)(J:Nat)(i:Nat)(p:Pair)(a b c d ents:Int)(kv l rv qv sv:Value)(w:World)(h:Inv base w wb lv ps (aP k))(hi:ps[i]?=some p)(hG:BkLen J k)(hJ:J≤2000000)(hlen:(ps.length+1)*16≤140737488355328) :
  Calls Tryz.prog 17 #[.pointer (some ⟨wb,0,none⟩),.agg #[.pointer (some ⟨p.kb,0,none⟩),.pointer (some ⟨p.rb,0,none⟩)],.agg #[.int .i64 9,.int .i64 a,.int .i64 b,.int .i64 c,.int .i64 d,.int .i64 ents,kv,l,rv,qv,sv]] w
   fun e w'=>e=.returned (.bool true)∧Below base w w'∧Only (fun b=>b=wb∨k.set b∨some b=lv.ownBlock) w w'∧∃ lv' ps' k',ps'.length≤ps.length+1∧Inv base w' wb lv' ps' (aP k')∧BkLen (J+1) k':=by
 have hbl:=h.lo;obtain⟨W,hW⟩:∃ W,W=(w.alloc (.cells #[.pointer (some ⟨p.kb,0,none⟩),.pointer (some ⟨p.rb,0,none⟩)] 52)).alloc (.cells #[.int .i64 9,.int .i64 a,.int .i64 b,.int .i64 c,.int .i64 d,.int .i64 ents,kv,l,rv,qv,sv] 41):=⟨_,rfl⟩;have hb:Below w.heap.size w W:=by rw[hW];exact((Below.refl _ _).alloc (Nat.le_refl _) _).alloc (by simp) _
 have HA:=aB (aC9 wb lv ps k J i p W (h.below hb) hi hG hJ hlen);have HB:=aB hb;clear hb hG h
 go_enter Tryz.func17,Tryz.ntmps17
 go_wp2_with fail
 rw[←hW];refine HA.out.mono ?_;rintro e w1 ⟨rfl,hB,hO,hI⟩;have HO:Hid (Only (fun b=>b=wb∨k.set b∨some b=lv.ownBlock) w w1):=(Only.new HB.out).trans hO;clear hO;have HI:=aB hI;clear hI
 go_wp2
 go_ret;exact⟨rfl,(HB.out.mono hbl).trans hB,HO.out,HI.out⟩
end Go.Proofs.YtndlmgocldckfaaGreat
