import Derived.Test.YtndlmgocldckfaaGreatG22
import Derived.Test.YtndlmgocldckfaaGreatG23
import Derived.Test.YtndlmgocldckfaaGreatG16
namespace Go.Proofs.YtndlmgocldckfaaGreat
open Go.RowKit
set_option linter.unusedVariables false
set_option linter.unusedSimpArgs false
set_option maxRecDepth 100000
set_option maxHeartbeats 4000000
theorem aD4{R:Nat→Prop}(cb gb:Nat)(ents:Int)(ks:List (List Ins))(draws:List Int)(s:KS)(a:Nat)(ha:a<4)(et en ek:Int)(E:Nat)(w:World)(h:RefC R w cb gb ents ks draws s)(he:1≤ents∧ents≤8)(hE:(E:Int)<ents) :
  Calls Tryz.prog 117 #[.pointer (some ⟨cb,0,none⟩),.agg #[.int .i64 8,.int .i64 (a:Int),.int .i64 0,.int .i64 0],.agg #[.int .i64 et,.int .i64 en,.int .i64 ek,.int .i64 (E:Int)]] w fun e w'=>eF R cb gb ents ks draws w (s,[s.regs (E*4+a)],0) e w':=by
 obtain⟨cap,r1,r2,r3⟩:=h.c6;have H:=aB h;have hcl:=aC r1;have hgl:=aC (h.regs 0 (by omega))
 obtain⟨N,hN⟩:=Int.eq_ofNat_of_zero_le (show 0≤ents*4 by omega)
 have hNn:(ents*4).toNat=N:=by omega
 have hreg:=h.regs;have hrr:=h.rroom;rw[hNn]at r1 r2 hreg hrr;have hEN:E*4+4≤N:=by omega
 obtain⟨F,hF⟩:∃ F,F=E*4:=⟨_,rfl⟩;have w1:IntKind.i64.wrap ((E:Int)*4)=(F:Int):=by rw[IntKind.wrap_i64];omega
 have w2:IntKind.i64.wrap ((F:Int)+4)=(F:Int)+4:=by rw[IntKind.wrap_i64];omega
 have b1:(0:Int)≤(F:Int):=by omega
 have b2:(F:Int)≤(F:Int)+4:=by omega
 have b3:(F:Int)+4≤(cap:Int):=by omega
 have b4:¬cap=F:=by omega
 have b5:F+4≤cap:=by omega
 have b6:F≤F+4:=by omega
 have t4:((F:Int)+4).toNat=F+4:=by omega
 have t5:F+4-F=4:=by omega
 obtain⟨W1,hW1⟩:∃ W1,W1=(w.alloc (.cells #[.int .i64 8,.int .i64 (a:Int),.int .i64 0,.int .i64 0] 59)).alloc (.cells #[.int .i64 et,.int .i64 en,.int .i64 ek,.int .i64 (E:Int)] 143):=⟨_,rfl⟩;have hb1:Below w.heap.size w W1:=by rw[hW1];exact((Below.refl _ _).alloc (Nat.le_refl _) _).alloc (by simp) _
 have hzW1:W1.heap.size=w.heap.size+2:=by rw[hW1];simp
 have z1:=aA hb1 r1 hcl;have x3:W1.cell? ⟨w.heap.size+1,3,none⟩=some (.int .i64 (E:Int)):=by rw[hW1];simp[go_sem]
 have y0:W1.cell? ⟨w.heap.size,0,none⟩=some (.int .i64 8):=by rw[hW1];simp[go_sem]
 have y1:W1.cell? ⟨w.heap.size,1,none⟩=some (.int .i64 (a:Int)):=by rw[hW1];simp[go_sem]
 have y2:W1.cell? ⟨w.heap.size,2,none⟩=some (.int .i64 0):=by rw[hW1];simp[go_sem]
 have y3:W1.cell? ⟨w.heap.size,3,none⟩=some (.int .i64 0):=by rw[hW1];simp[go_sem]
 have hreg1:∀ i,i<4→W1.cell? ⟨gb,F+i,none⟩=some (.int .i64 (s.regs (E*4+i))):=fun i hi=>by rw[hF];exact aA hb1 (hreg (E*4+i) (by omega)) hgl
 have hfro1:∀ i,i<4→W1.frozen? ⟨gb,F+i,none⟩=false:=fun i hi=>by rw[hF];exact(hb1.frozen (p:=⟨gb,E*4+i,none⟩) hgl).trans (hrr (E*4+i) (by omega)).2
 have Hreg1:=aB hreg1;have Hfro1:=aB hfro1;have HB1:=aB hb1;have HF:=aB hF;have H1:=aB (H.out.only (Only.new (S:=fun _=>False) hb1) (by simp) (by simp) (by simp))
 have HNn:=aB hNn;have b7:(0:Int)≤(a:Int):=by omega
 have b8:(a:Int)<4:=by omega
 clear h hb1 hF hreg hrr hreg1 hfro1 hN hNn
 go_enter Tryz.func117,Tryz.ntmps117
 go_wp2_with fail
 rw[←hW1];clear hW1
 go_quiet (fail)
 obtain⟨W2,hW2⟩:∃ W2,W2=W1.drewN nq:=⟨_,rfl⟩;rw[←hW2];have hb2:Below W1.heap.size W1 W2:=by rw[hW2];exact below_drewN (Below.refl _ _) _
 have hz2:=hb2.size
 replace y0:=aA hb2 y0 (by omega)
 replace y1:=aA hb2 y1 (by omega)
 replace y2:=aA hb2 y2 (by omega)
 replace y3:=aA hb2 y3 (by omega)
 have Hreg2:Hid (∀ i,i<4→W2.cell? ⟨gb,F+i,none⟩=some (.int .i64 (s.regs (E*4+i)))):=fun i hi=>aA hb2 (Hreg1.out i hi) (by omega)
 have Hfro2:Hid (∀ i,i<4→W2.frozen? ⟨gb,F+i,none⟩=false):=fun i hi=>(hb2.frozen (p:=⟨gb,F+i,none⟩) (by show gb<_;omega)).trans (Hfro1.out i hi)
 have H2:=aB (H1.out.only (Only.new (S:=fun _=>False) hb2) (by simp) (by simp) (by simp))
 have HB2:Hid (Below w.heap.size w W2):=HB1.out.trans (hb2.mono (by omega))
 clear hW2 hb2 x3 z1;have ca:=Hreg2.out a ha;have HW2l:Hid (w.heap.size≤W2.heap.size):=by show _≤_;omega
 go_wp2_with fail
 go_ret2;have hbb:Below W2.heap.size W2 (W2.alloc (.cells #[.int .i64 (s.regs (E*4+a))] 3)):=(Below.refl _ _).alloc (Nat.le_refl _) _;have hzz:(W2.alloc (.cells #[.int .i64 (s.regs (E*4+a))] 3)).heap.size=W2.heap.size+1:=by simp
 refine⟨_,_,rfl,(Only.new HB2.out).trans (Only.new hbb),fun _=>⟨(H2.out.only (Only.new (S:=fun _=>False) hbb) (by simp) (by simp) (by simp)).wide hcl hgl,by simp,.inr ⟨_,_,_,rfl,⟨HW2l.out,by omega⟩,?_⟩⟩⟩
 intro j v hv;have hj:j=0:=by have:=(List.getElem?_eq_some_iff.1 hv).1;simp[ints]at this;omega
 subst hj;simp[ints]at hv;subst hv;simp[go_sem]
theorem zE{R:Nat→Prop}(cb gb:Nat)(ents:Int)(ks:List (List Ins))(draws:List Int)(s:KS)(x:Ins)(et en ek:Int)(E:Nat)(w:World)(h:RefC R w cb gb ents ks draws s)(he:1≤ents∧ents≤8)(hE:(E:Int)<ents)(hx:aX ents ks.length x.op x.a x.b x.c=true)(h5:x.op≠5)(hok:KOk ents ks.length draws s)(hdl:draws.length≤1000)(hdk:∀ d∈draws,0≤d∧d≤1000000000) :
  Calls Tryz.prog 117 #[.pointer (some ⟨cb,0,none⟩),.agg #[.int .i64 x.op,.int .i64 x.a,.int .i64 x.b,.int .i64 x.c],.agg #[.int .i64 et,.int .i64 en,.int .i64 ek,.int .i64 (E:Int)]] w fun e w'=>eF R cb gb ents ks draws w (doI draws E x s) e w':=by
 obtain⟨op,xa,xb,xc⟩:=x;simp only at hx h5 ⊢
 by_cases o1:op=1
 ·subst o1;have hf:(0≤xa∧xa≤3)∧xc=0:=by simp[aX,inB]at hx;omega
  obtain⟨a,rfl⟩:=Int.eq_ofNat_of_zero_le hf.1.1;obtain rfl:=hf.2;have:=aEl (R:=R) cb gb ents ks draws s a xb (by omega) et en ek E w h he hE
  simpa [doI]using this
 by_cases o2:op=2
 ·subst o2;have hf:(0≤xa∧xa≤3)∧(0≤xb∧xb≤3)∧xc=0:=by simp[aX,inB]at hx;omega
  obtain⟨a,rfl⟩:=Int.eq_ofNat_of_zero_le hf.1.1;obtain⟨b,rfl⟩:=Int.eq_ofNat_of_zero_le hf.2.1.1;obtain rfl:=hf.2.2;have:=aEm (R:=R) cb gb ents ks draws s a b (by omega) (by omega) hok.regs et en ek E w h he hE
  simpa [doI]using this
 by_cases o3:op=3
 ·subst o3;have hf:(0≤xa∧xa≤3)∧(0≤xb∧xb≤3)∧xc=0:=by simp[aX,inB]at hx;omega
  obtain⟨a,rfl⟩:=Int.eq_ofNat_of_zero_le hf.1.1;obtain⟨b,rfl⟩:=Int.eq_ofNat_of_zero_le hf.2.1.1;obtain rfl:=hf.2.2;have:=aEn (R:=R) cb gb ents ks draws s a b (by omega) (by omega) hok.regs et en ek E w h he hE
  simpa [doI]using this
 by_cases o4:op=4
 ·subst o4;have hf:(0≤xa∧xa≤3)∧(1≤xb∧xb≤1000000000)∧xc=0:=by simp[aX,inB]at hx;omega
  obtain⟨a,rfl⟩:=Int.eq_ofNat_of_zero_le hf.1.1;obtain rfl:=hf.2.2;exact aD0 (R:=R) cb gb ents ks draws s a xb (by omega) hf.2.1 hdl hdk et en ek E w h he hE
 by_cases o6:op=6
 ·subst o6;have hf:0≤xc∧xc≤3:=by simp[aX,inB]at hx;omega
  obtain⟨c,rfl⟩:=Int.eq_ofNat_of_zero_le hf.1;exact aD1 (R:=R) cb gb ents ks draws s xa xb c (by omega) hok et en ek E w h he hE
 by_cases o7:op=7
 ·subst o7;have hf:(0≤xa∧xa≤3)∧xb=0∧xc=0:=by simp[aX,inB]at hx;omega
  obtain⟨a,rfl⟩:=Int.eq_ofNat_of_zero_le hf.1.1;obtain rfl:=hf.2.1;obtain rfl:=hf.2.2;have:=aD3 (R:=R) cb gb ents ks draws s a (by omega) hok.len et en ek E w h he hE
  simpa [doI]using this
 ·have o8:op=8:=by
   by_cases h8:op=8
   ·exact h8
   ·simp[aX,o1,o2,o3,o4,h5,o6,o7,h8]at hx
  subst o8;have hf:(0≤xa∧xa≤3)∧xb=0∧xc=0:=by simp[aX,inB]at hx;omega
  obtain⟨a,rfl⟩:=Int.eq_ofNat_of_zero_le hf.1.1;obtain rfl:=hf.2.1;obtain rfl:=hf.2.2;have:=aD4 (R:=R) cb gb ents ks draws s a (by omega) et en ek E w h he hE
  simpa [doI]using this
end Go.Proofs.YtndlmgocldckfaaGreat

namespace Go.Proofs.YtndlmgocldckfaaGreat
open Go.RowKit Go.Conc
set_option linter.unusedVariables false
set_option linter.unusedSimpArgs false
set_option maxRecDepth 100000
set_option maxHeartbeats 4000000
theorem sR{P:Program}{Q:Goroutine→World→Prop}{b:Frame}{tmps:Array Value}{k:List Item}{cs:List Frame}{w:World}{c n i T:Nat}{buf:Array Value}{fl:Array Bool}(hc:w.heap[c]?=some (.chan n buf false i 0 false))
  (h:LoneTo P Q (G {b.at ⟨tmps,[]⟩ k with mode:=.returning} cs) (w.setChan c n buf true i 0 false)) :
  LoneTo P Q (G {b.at ⟨tmps,[{target:=.builtin .close #[T] 0 fl,args:=#[.chan (some c)]}]⟩ k with mode:=.returning} cs) w:=by
 have hrun:=fun ty=>run_close_open (P:=P) (w:=w) #[T] ty hc;have hst:∃ es,stepG P true (G {b.at ⟨tmps,[{target:=.builtin .close #[T] 0 fl,args:=#[.chan (some c)]}]⟩ k with mode:=.returning} cs) w=.go (G {b.at ⟨tmps,[]⟩ k with mode:=.returning} cs) (w.setChan c n buf true i 0 false) es:=by
  simp[stepG,unwind,callDeferred,invoke,builtin,G,Frame.at,hrun,Result.andThen,World.setChan];exact⟨_,rfl⟩
 obtain⟨es,hes⟩:=hst;exact .step (step_solo_go rfl hes) h
theorem aG8{R:Nat→Prop}{base:Nat}{kb qb mb c n:Nat}{ov:Value}{ents:Int}{ks:List (List Ins)}{draws:List Int}{s:KS}(horizon:Int)(w:World)(h:KerP R base w kb qb mb ov ents ks draws s)(hok:KOk ents ks.length draws s)(hents:ents≤8)(hk8:ks.length≤8)(hn:n≤1000)(hbase:base≤w.heap.size)
  (hcode:∀ l∈ks,l.length≤16∧∀ x∈l,aX ents ks.length x.op x.a x.b x.c=true) (hd:∀ d∈draws,0≤d∧d≤1000000000) (hc:w.heap[c]?=some (.chan n #[] false 0 0 false)) (hck:¬bG kb qb mb ov c) (hcR:¬R c) :
  Calls Tryz.prog 89 #[.pointer (some ⟨kb,0,none⟩),.int .i64 n,.int .i64 horizon,.chan (some c)] w fun e w'=>e=.returned (.int .i64 (eB ks draws horizon n s).2.2) ∧
   ∃ sqb smb ov2 sov2 buf w2,MsInv R base w w2 kb qb mb c sqb smb ov ents ks draws n (eB ks draws horizon n s).2.1.length (eB ks draws horizon n s).1 ov2 sov2 buf (eB ks draws horizon n s).2.1∧w'=w2.setChan c n buf true (eB ks draws horizon n s).2.1.length 0 false:=by
 refine calls_of_loneTo (fun cs=>?_);have e:Frame.enter Tryz.prog 89 #[.pointer (some ⟨kb,0,none⟩),.int .i64 n,.int .i64 horizon,.chan (some c)] .normal=msBase.at ⟨#[.pointer (some ⟨kb,0,none⟩),.int .i64 n,.int .i64 horizon,.chan (some c),undef,undef,undef,undef,undef,undef,undef,undef,undef,undef,undef,undef,undef,undef,undef,undef,undef,undef,undef,undef,undef,undef,undef,undef,undef,undef],[]⟩ [.code (Tryz.f89.body.getD .skip)]:=by
  simp[Frame.enter,Frame.at,Tryz.func89,msBase,Tryz.f89]
 rw[e];clear e;simp only[Tryz.f89,Option.getD_some];refine aY ?_;refine bN ?_
 go_wp2
 refine aY ?_;refine bN ?_
 go_wp2
 refine aY ?_;refine bN ?_
 go_wp2_with (go_at_call 62;refine(yP _).mono ?_;rintro e w1 ⟨rfl,rfl⟩)
 refine aY ?_;refine aY ?_;refine bN ?_
 go_wp2
 refine kU ?_;refine vD ?_;have hcl:c<w.heap.size:=(Array.getElem?_eq_some_iff.1 hc).1;have hbN:Below w.heap.size w ((w.alloc (.map #[] 0)).alloc (.cells #[.map (some w.heap.size),.slice none 0 0] 156)):=((Below.refl _ _).alloc (Nat.le_refl _) _).alloc (by simp) _
 have hqN:=yQ w.heap.size w 156;have hI0:MsInv R base w ((w.alloc (.map #[] 0)).alloc (.cells #[.map (some w.heap.size),.slice none 0 0] 156)) kb qb mb c (w.heap.size+1) w.heap.size ov ents ks draws n 0 s ov (.slice none 0 0) #[] []:=by
  refine⟨Only.new hbN,.inl rfl,h.below hbN,hok,⟨[],hqN⟩,?_,⟨fun b hb hc=>?_,fun b hb hc=>?_⟩,(hbN.block c hcl).trans hc,rfl,rfl,by simp,by simp,by simp,hck,hcl,hcR⟩
  ·rintro b (rfl|rfl|hb)
   ·omega
   ·exact Nat.le_refl _
   ·simp[Value.ownBlock]at hb
  ·have:=h.lt b hb;rcases hc with rfl|rfl|hc
   ·omega
   ·omega
   ·simp[Value.ownBlock]at hc
  ·have:=h.rlt b hb;rcases hc with rfl|rfl|hc
   ·omega
   ·omega
   ·simp[Value.ownBlock]at hc
 rcases hF:eB ks draws horizon n s with⟨s2,rs,why⟩;refine aE2 (R:=R) (base:=base) (w:=w) (kb:=kb) (qb:=qb) (mb:=mb) (c:=c) (sqb:=w.heap.size+1) (smb:=w.heap.size) (n:=n) (ov:=ov) (ents:=ents) (ks:=ks) (draws:=draws) horizon hents hk8 hn hbase hcode hd cs _ _ _ n 0 s ov (.slice none 0 0) #[] [] _ _ _ _ _ _ _ _ _ _ _ _ _ _ _ _ _ _ (by omega) hI0 ?_ ?_
 ·intro why' st2 rs' i2 ov2 sov2 buf2 w2 x10 x11 y16 y17 y18 y19 y20 y21 y22 y23 y24 y25 y26 y27 y28 y29 k2 hR hI2 hw;rw[hF]at hR;simp only[Prod.mk.injEq]at hR;obtain⟨rfl,rfl,rfl⟩:=hR;simp only[List.nil_append]at hI2;refine sR hI2.chan ?_;exact LoneTo.done ⟨.returned (.int .i64 why),_,rfl,⟨rfl,_,_,ov2,sov2,buf2,w2,hI2,rfl⟩,rfl,rfl,rfl,rfl,_,Tryz.func89,by simp[results,Tryz.f89,Frame.at]⟩
 ·intro st2 rs' i2 ov2 sov2 buf2 w2 x8 x10 x11 y16 y17 y18 y19 y20 y21 y22 y23 y24 y25 y26 y27 y28 y29 hR hI2;rw[hF]at hR;simp only[Prod.mk.injEq]at hR;obtain⟨rfl,rfl,rfl⟩:=hR;simp only[List.nil_append]at hI2;refine aY ?_;refine bN ?_
  go_wp2
  refine LoneTo.step (step_solo_go rfl stepG_ret') ?_;refine sR hI2.chan ?_;exact LoneTo.done ⟨.returned (.int .i64 0),_,rfl,⟨rfl,_,_,ov2,sov2,buf2,w2,hI2,rfl⟩,rfl,rfl,rfl,rfl,_,Tryz.func89,by simp[results,Tryz.f89,Frame.at]⟩
section
variable {P : Program} {Q : Goroutine → World → Prop} {b : Frame} {a : Act} {k : List Item} {cs : List Frame} {w : World}
theorem aC6{id:Nat}{o0 o1:Oper}{xc:Operand}{ty e:TypeId}{dr:ChanDir}{z v1:Value}{c cap s r:Nat}{buf:Array Value}{closed tm:Bool}(hb:b.kind≠.early)(g0:o0.guard=none)(g1:o1.guard=none)
  (h0:o0.op=.recv ty xc true) (hc:a.eval xc=.chan (some c)) (hu:P.underlying ty=some (.chan dr e)) (hz:(zeroValue e).run P w=.ok z w) (hch:w.heap[c]?=some (.chan cap buf closed s r tm)) (hsome:0<buf.size)
  (h1:(execOp (a.put o0.dst (.tuple #[buf.getD 0 undef,.bool true])).eval o1).run P (w.setChan c cap (buf.extract 1 buf.size) closed s (r+1) tm)=.ok (.value v1) (w.setChan c cap (buf.extract 1 buf.size) closed s (r+1) tm))
  (h:LoneTo P Q (G (b.at ((a.put o0.dst (.tuple #[buf.getD 0 undef,.bool true])).put o1.dst v1) k) cs) (w.setChan c cap (buf.extract 1 buf.size) closed s (r+1) tm)) :
  LoneTo P Q (G (b.at a (.code (.region id #[o0,o1] false)::k)) cs) w:=by
 refine .step (step_solo_go rfl stepG_region) ?_;show LoneTo P Q (G (b.at a (.inRegion #[o0,o1] [0,1]::k)) cs) w;refine .step (step_lone_recv_buf true (c:=c) (z:=z) (cap:=cap) (buf:=buf) (s:=s) (r:=r) (tm:=tm) (closed:=closed) (w₁:=w) (stepG_comm (o:=o0) (cases:=#[rcase c z]) (blocking:=true) (shape:=.recv true) (w':=w) rfl (by simp[Region.wanted,g0]) hb (by simp[execOp,h0,hc,run_underlying hu,hz,rcase,Result.andThen])) hch hsome) ?_
 rw[Frame.finish_at];simp only[got,if_true];refine .step (step_solo_go rfl (stepG_value (o:=o1) rfl (by simp[Region.wanted,g1]) hb h1)) ?_
 refine .step (step_solo_go rfl stepG_region_end) ?_;exact h
theorem sK{id:Nat}{o0 o1:Oper}{xc:Operand}{ty e:TypeId}{dr:ChanDir}{z v1:Value}{c cap s r:Nat}{tm:Bool}(hb:b.kind≠.early)(g0:o0.guard=none)(g1:o1.guard=none)
  (h0:o0.op=.recv ty xc true) (hc:a.eval xc=.chan (some c)) (hu:P.underlying ty=some (.chan dr e)) (hz:(zeroValue e).run P w=.ok z w) (hch:w.heap[c]?=some (.chan cap #[] true s r tm))
  (h1:(execOp (a.put o0.dst (.tuple #[z,.bool false])).eval o1).run P w=.ok (.value v1) w)
  (h:LoneTo P Q (G (b.at ((a.put o0.dst (.tuple #[z,.bool false])).put o1.dst v1) k) cs) w) :
  LoneTo P Q (G (b.at a (.code (.region id #[o0,o1] false)::k)) cs) w:=by
 refine .step (step_solo_go rfl stepG_region) ?_;show LoneTo P Q (G (b.at a (.inRegion #[o0,o1] [0,1]::k)) cs) w;refine .step (step_lone_recv_shut true (c:=c) (z:=z) (cap:=cap) (s:=s) (r:=r) (tm:=tm) (w₁:=w) (stepG_comm (o:=o0) (cases:=#[rcase c z]) (blocking:=true) (shape:=.recv true) (w':=w) rfl (by simp[Region.wanted,g0]) hb (by simp[execOp,h0,hc,run_underlying hu,hz,rcase,Result.andThen])) hch) ?_
 rw[Frame.finish_at];simp only[got,if_true];refine .step (step_solo_go rfl (stepG_value (o:=o1) rfl (by simp[Region.wanted,g1]) hb h1)) ?_
 refine .step (step_solo_go rfl stepG_region_end) ?_;exact h
end
abbrev lsBase:Frame:={(default:Frame)with fn:=90,kind:=.normal}
theorem aDs{w:World}{c n i:Nat}(cs:List Frame)(Q:Goroutine→World→Prop)(k:List Item)(hcl:c<w.heap.size)(rest:List RecC) :
  ∀ (done:List RecC) (r:Nat) (ra:Array Value) (lv:Value) (wr:World) (x2 x4 y6 y7 y8 y9 y10 y11 y12 y13:Value),ra.toList=rest.map RecC.v→(done++rest).length≤1000→wr.heap[c]?=some (.chan n ra true i r false)→wr.ownsRow w.heap.size 46 5 lv done.length (bA done)→Only (·=c) w wr →
   (∀ (lv2:Value) (w2:World) (x4 y6 y7 y8 y9 y10 y11 y12 y13:Value),w2.ownsRow w.heap.size 46 5 lv2 (done++rest).length (bA (done++rest))→Only (·=c) w w2 →
    LoneTo Tryz.prog Q (G (lsBase.at ⟨#[.chan (some c),undef,x2,lv2,x4,.chan (some c),y6,y7,y8,y9,y10,y11,y12,y13],[]⟩ k) cs) w2) →
   LoneTo Tryz.prog Q (G (lsBase.at ⟨#[.chan (some c),undef,x2,lv,x4,.chan (some c),y6,y7,y8,y9,y10,y11,y12,y13],[]⟩ (.code ((Tryz.f90.body.bind eJ).getD .skip)::.inLoop ((Tryz.f90.body.bind eJ).getD .skip)::.inBlock 0::k)) cs) wr:=by
 induction rest with
 | nil=>
  intro done r ra lv wr x2 x4 y6 y7 y8 y9 y10 y11 y12 y13 hra hl hch hown ho hend;have hra':ra=#[]:=by simpa using hra
  subst hra';refine aY ?_;refine sK (z:=.agg #[.int .i64 0,.int .i64 0,.int .i64 0,.int .i64 0,.slice none 0 0]) (v1:=.bool false) (by simp) rfl rfl rfl rfl Tryz.underlying175 (by simp[go_sem]) hch (by simp[execOp,Act.eval,Act.put,Instr.extract]) ?_
  simp only[Act.put];refine aY ?_;refine iK (t:=false) rfl ?_;simp only[Bool.false_eq_true,if_false];refine vF rfl ?_;refine hend lv wr _ _ _ _ _ _ _ _ _ (by simpa using hown) ho
 | cons x rest ih=>
  intro done r ra lv wr x2 x4 y6 y7 y8 y9 y10 y11 y12 y13 hra hl hch hown ho hend;have hz0:=ho.size;have h0:ra.getD 0 undef=x.v:=by
   have:ra[0]?=some x.v:=by rw[←Array.getElem?_toList,hra];simp
   simp[Array.getD_eq_getD_getElem?,this]
  have hsz:0<ra.size:=by rw[←Array.length_toList,hra];simp
  have hra2:(ra.extract 1 ra.size).toList=rest.map RecC.v:=by
   rw[Array.toList_extract,hra];simp[List.extract_eq_take_drop];rw[←Array.length_toList,hra];simp;exact List.take_of_length_le (by simp)
  have hoc:Only (·=c) wr (wr.setChan c n (ra.extract 1 ra.size) true i (r+1) false):=⟨rfl,rfl,rfl,by simp[World.setChan],fun k hk hn=>by simp only[World.setChan];rw[Array.getElem?_setIfInBounds_ne (fun e=>hn e.symm)]⟩
  have hcc:=heap_setChan wr c n (ra.extract 1 ra.size) true i (r+1) false (by omega)
  refine aY ?_;refine aC6 (z:=.agg #[.int .i64 0,.int .i64 0,.int .i64 0,.int .i64 0,.slice none 0 0]) (v1:=.bool true) (by simp) rfl rfl rfl rfl Tryz.underlying175 (by simp[go_sem]) hch hsz (by simp[execOp,Act.eval,Act.put,Instr.extract]) ?_
  rw[h0];generalize wr.setChan c n (ra.extract 1 ra.size) true i (r+1) false=W1 at hoc hcc ⊢;have hz1:=hoc.size;have hown1:=bT hown hoc (fun b hb hc=>by have:=(hown.lt b hb.symm).1;omega)
  have HL:=aB (fun b (hb:some b=lv.ownBlock)=>hown1.lt b hb.symm);obtain⟨sa,sc,rfl⟩:=bR hown1;have Hown1:=aB hown1;clear hown hown1;simp only[Act.put,RecC.v];refine aY ?_;refine iK (t:=true) rfl ?_;simp only[if_true];refine pE ?_;refine kU ?_;refine aY ?_;refine bN ?_
  go_wp2
  refine bN ?_;obtain⟨W2,hW2⟩:∃ W2,W2=W1.alloc (.cells #[.int .i64 x.e.number,.int .i64 x.e.time,.int .i64 x.e.kind,.int .i64 x.e.entity,.slice x.sa x.n x.sc] 46):=⟨_,rfl⟩;have hb2:Below W1.heap.size W1 W2:=by rw[hW2];exact(Below.refl _ _).alloc (Nat.le_refl _) _
  have z:∀ (j:Nat) (v:Value),#[Value.int .i64 x.e.number,.int .i64 x.e.time,.int .i64 x.e.kind,.int .i64 x.e.entity,.slice x.sa x.n x.sc][j]?=some v→W2.cell? ⟨W1.heap.size,j,none⟩=some v:=by
   intro j v hv;rw[hW2,World.cell?_alloc_at _ _ _ _ rfl];exact hv
  have z0:=z 0 _ rfl;have z1:=z 1 _ rfl;have z2:=z 2 _ rfl;have z3:=z 3 _ rfl;have z4:=z 4 _ rfl;have hzz:W2.heap.size=W1.heap.size+1:=by rw[hW2];simp
  rw[←hW2];have Hzz:=aB hzz;clear hW2 z hzz;have hlen:done.length+1≤1000:=by simp at hl;omega
  have Hown2:=aB ((bT Hown1.out (Only.new (S:=fun _=>False) hb2) (by simp)).alloc (.cells #[.int .i64 x.e.number,.int .i64 x.e.time,.int .i64 x.e.kind,.int .i64 x.e.entity,.slice x.sa x.n x.sc] 46))
  go_wp2_with (at_builtin;refine aD rfl (.tmp 9) (.tmp 11) 39 rfl w.heap.size 46 (.agg #[.int .i64 0,.int .i64 0,.int .i64 0,.int .i64 0,.slice none 0 0]) 5 56 Tryz.underlying39 Tryz.infoR rfl (by omega) _ done.length (bA done) rfl Hown2.out _ 1 x.cells rfl (.inr (.inl ⟨W2.heap.size,0,_,rfl,?_⟩)) rfl ?_ (by omega) (by omega) (by have:=Hzz.out;simp;omega) ?_)
  ·intro j u hu;have hj:j<5:=by have:=(List.getElem?_eq_some_iff.1 hu).1;simpa [RecC.cells]using this
   have:j=0∨j=1∨j=2∨j=3∨j=4:=by omega
   rcases this with rfl|rfl|rfl|rfl|rfl<;>simp[RecC.cells]at hu<;>subst hu<;>simp[go_sem]
  ·intro u hu;simp[RecC.cells]at hu;rcases hu with rfl|rfl|rfl|rfl|rfl<;>rfl
  intro v4 w4 hown4 hgr4 hwh4;obtain⟨sa4,sc4,rfl⟩:=bR hown4.out;have hc4:w4.heap[c]?=some (.chan n (ra.extract 1 ra.size) true i (r+1) false):=by
   have hzz:=Hzz.out;rw[hgr4.out.block c (by simp;omega) (fun hc=>by have:=(HL.out c hc).1;omega),Below.heap_alloc _ _ _ (by omega),hb2.block c (by omega)]
   exact hcc
  have ho4:Only (·=c) w w4:=by
   have hzz:=Hzz.out;have hz4:=hgr4.out.size;simp only[World.size_alloc]at hz4;refine⟨by rw[hgr4.out.os];exact(hb2.os.trans hoc.os).trans ho.os,by rw[hgr4.out.tape];exact(hb2.tape.trans hoc.tape).trans ho.tape,by rw[hgr4.out.output];exact(hb2.output.trans hoc.output).trans ho.output,by omega,?_⟩
   intro k' hk' hn;rw[hgr4.out.block k' (by simp;omega) (fun hc=>by have:=(HL.out k' hc).1;omega),Below.heap_alloc _ _ _ (by omega),hb2.block k' (by omega),hoc.block k' (by omega) hn,ho.block k' hk' hn]
  have Hown4:=aB hown4.out;clear hown4 hgr4 hwh4 HL Hown2 Hown1 z0 z1 z2 z3 z4
  go_wp2
  refine oI ?_;refine pX ?_;refine ih (done++[x]) (r+1) (ra.extract 1 ra.size) (.slice sa4 (done.length+1) sc4) w4 x2 _ _ _ _ _ _ _ _ _ hra2 (by simpa using hl) hc4 ?_ ho4 ?_
  ·have:=Hown4.out
   simpa [bA]using this
  ·intro lv2 w2 x4 y6 y7 y8 y9 y10 y11 y12 y13 hown2 ho2;refine hend lv2 w2 x4 y6 y7 y8 y9 y10 y11 y12 y13 ?_ ho2
   simpa using hown2
theorem aA5(w:World)(c n i:Nat)(l:List RecC)(hl:l.length≤1000)(hc:w.heap[c]?=some (.chan n (l.map RecC.v).toArray true i 0 false)) :
  Calls Tryz.prog 90 #[.chan (some c)] w fun e w'=>∃ lv,e=.returned lv∧w'.ownsRow w.heap.size 46 5 lv l.length (bA l)∧Only (·=c) w w':=by
 refine calls_of_loneTo (fun cs=>?_);have hcl:c<w.heap.size:=(Array.getElem?_eq_some_iff.1 hc).1;have e:Frame.enter Tryz.prog 90 #[.chan (some c)] .normal=lsBase.at ⟨#[.chan (some c),undef,undef,undef,undef,undef,undef,undef,undef,undef,undef,undef,undef,undef],[]⟩ [.code (Tryz.f90.body.getD .skip)]:=by
  simp[Frame.enter,Frame.at,Tryz.func90,lsBase,Tryz.f90]
 rw[e];clear e;simp only[Tryz.f90,Option.getD_some];refine aY ?_;refine bN ?_
 go_wp2
 refine aY ?_;refine bN ?_
 go_wp2
 refine aY ?_;refine aY ?_;refine bN ?_
 go_wp2
 refine kU ?_;refine vD ?_;refine aDs (w:=w) (c:=c) (n:=n) (i:=i) cs _ _ hcl l [] 0 _ (.slice none 0 0) w _ _ _ _ _ _ _ _ _ _ (by simp) (by simpa using hl) hc (World.ownsRow_nil _ _ _ _) (Only.refl _ _) ?_
 intro lv2 w2 x4 y6 y7 y8 y9 y10 y11 y12 y13 hown ho;obtain⟨sa,sc,rfl⟩:=bR hown;simp only[List.nil_append]at hown ⊢;refine aY ?_;refine bN ?_
 go_wp2
 refine LoneTo.step (step_solo_go rfl stepG_ret') ?_;exact LoneTo.done ⟨.returned (.slice sa l.length sc),_,rfl,⟨_,rfl,hown,ho⟩,rfl,rfl,rfl,rfl,_,Tryz.func90,by simp[results,Tryz.f90,Frame.at]⟩
theorem aGc(n:Nat)(hn:n≤1000)(w:World):(Instr.makeChan 139 (.int .i64 n)).run Tryz.prog w=.ok (.chan (some w.heap.size)) (w.alloc (.chan n #[] false 0 0 false)):=by
 obtain⟨i,hi,hz,hs,hb⟩:=info_parts Tryz.infoR;exact run_makeChan (P:=Tryz.prog) (w:=w) Tryz.underlying139 hi .i64 n (by omega) (by rw[hb];omega)
theorem kL{w:World}{b b':Nat}{e:TypeId}{size:Nat}{v:Value}{n:Nat}{xs:List Value}(h:w.ownsRow b e size v n xs)(hb:b'≤b):w.ownsRow b' e size v n xs:=by
 obtain⟨h1,h2⟩:=h;refine⟨h1,?_⟩;rcases h2 with h2|⟨g,cap,cur,hv,hg,r⟩
 ·exact .inl h2
 ·exact .inr ⟨g,cap,cur,hv,by omega,r⟩
theorem aBi:∀ (vs:List Value) (rs:List Rec),vs.length=rs.length→(∀ (j:Nat) v r,vs[j]?=some v→rs[j]?=some r→∃ sa sc,v=gZ r.e (.slice sa r.told.length sc)) →
  ∃ L:List RecC,vs=L.map RecC.v∧L.length=rs.length∧∀ (j:Nat) x r,L[j]?=some x→rs[j]?=some r→x.e=r.e∧x.n=r.told.length
 | [],rs,hl,_=>⟨[],rfl,hl,by simp⟩
 | v::vs,[],hl,_=>by simp at hl
 | v::vs,r::rs,hl,h=>by
  obtain⟨L,h1,h2,h3⟩:=aBi vs rs (by simpa using hl) (fun j v' r' hv hr=>h (j+1) v' r' (by simpa using hv) (by simpa using hr))
  obtain⟨sa,sc,hv⟩:=h 0 v r rfl rfl;refine⟨⟨r.e,sa,r.told.length,sc⟩::L,by rw[hv,h1];rfl,by simp[h2],?_⟩
  intro j x r' hx hr;cases j with
  | zero=>simp at hx hr;subst hx;subst hr;exact⟨rfl,rfl⟩
  | succ j=>exact h3 j x r' (by simpa using hx) (by simpa using hr)
theorem qL(ks:List (List Ins))(draws:List Int)(horizon:Int):∀ (n:Nat) (s:KS),(eB ks draws horizon n s).2.1.length≤n
 | 0,s=>by simp[eB]
 | n+1,s=>by
  unfold eB
  split
  ·rename_i s' r y hs
   have:=qL ks draws horizon n s';simp;omega
  ·simp
structure aEs(w w':World)(kb qb mb:Nat)(ov2:Value)(lv:Value)(L:List RecC)(rs:List Rec):Prop where
 len:L.length=rs.length
 row:w'.ownsRow w.heap.size 46 5 lv L.length (bA L)
 rec_:∀ (j:Nat) x r,L[j]?=some x→rs[j]?=some r→x.e=r.e∧x.n=r.told.length∧w'.ownsRow w.heap.size 3 1 (.slice x.sa x.n x.sc) r.told.length (ints r.told)
 lsep:∀ b,some b=lv.ownBlock→¬bG kb qb mb ov2 b
 tsep:∀ (j:Nat) x b,L[j]?=some x→some b=(Value.slice x.sa x.n x.sc).ownBlock→¬bG kb qb mb ov2 b∧some b≠lv.ownBlock
 apart:∀ (j k:Nat) x y b,L[j]?=some x→L[k]?=some y→some b=(Value.slice x.sa x.n x.sc).ownBlock→some b=(Value.slice y.sa y.n y.sc).ownBlock→j=k
theorem aFt(kb:Nat)(steps horizon:Int)(w:World)(hs:¬(0≤steps∧steps≤1000)) :
  Calls Tryz.prog 46 #[.pointer (some ⟨kb,0,none⟩),.int .i64 steps,.int .i64 horizon] w fun e w'=>e=.returned (.tuple #[.slice none 0 0,.int .i64 0,.int .i64 1])∧w'=w:=by
 by_cases h0:steps<0
 ·go_enter Tryz.func46,Tryz.ntmps46
  go_wp2
  go_ret3
  exact⟨rfl,rfl⟩
 ·have h1:1000<steps:=by omega
  go_enter Tryz.func46,Tryz.ntmps46
  go_wp2
  go_ret3
  exact⟨rfl,rfl⟩
theorem aGd{R:Nat→Prop}{base:Nat}{kb qb mb:Nat}{ov:Value}{ents:Int}{ks:List (List Ins)}{draws:List Int}{s:KS}(n:Nat)(horizon:Int)(w:World)(h:KerP R base w kb qb mb ov ents ks draws s)(hok:KOk ents ks.length draws s)(hents:ents≤8)(hk8:ks.length≤8)(hn:n≤1000)(hbase:base≤w.heap.size)
  (hcode:∀ l∈ks,l.length≤16∧∀ x∈l,aX ents ks.length x.op x.a x.b x.c=true) (hd:∀ d∈draws,0≤d∧d≤1000000000) (s2:KS) (rs:List Rec) (why:Int) (hF:eB ks draws horizon n s=(s2,rs,why)) :
  Calls Tryz.prog 46 #[.pointer (some ⟨kb,0,none⟩),.int .i64 n,.int .i64 horizon] w fun e w'=>∃ lv ov2 L,e=.returned (.tuple #[lv,.int .i64 why,.int .i64 0])∧Only (bG kb qb mb ov) w w'∧Moved w ov ov2∧KerP R base w' kb qb mb ov2 ents ks draws s2∧KOk ents ks.length draws s2∧aEs w w' kb qb mb ov2 lv L rs:=by
 have hmk:=aGc n hn w;have hbA:Below w.heap.size w (w.alloc (.chan n #[] false 0 0 false)):=(Below.refl _ _).alloc (Nat.le_refl _) _;have hcn:¬bG kb qb mb ov w.heap.size:=fun hc=>by have:=h.lt _ hc;omega
 have HM:=aB (aG8 (n:=n) (c:=w.heap.size) horizon (w.alloc (.chan n #[] false 0 0 false)) (h.below hbA) hok hents hk8 hn (by simp;omega) hcode hd (eD _ _) hcn (fun hc=>by have:=h.rlt _ hc;omega))
 rw[hF]at HM;simp only at HM;have n1:(n:Int)≤1000:=by omega
 have hlenF:=qL ks draws horizon n s;rw[hF]at hlenF;simp only at hlenF;have H:=aB h;clear h hF hcode hd
 go_enter Tryz.func46,Tryz.ntmps46
 have hrl:rs.length≤1000:=by omega
 have HE:Hid (∀ w1 sqb smb ov2 sov2 buf w2,MsInv R base (w.alloc (.chan n #[] false 0 0 false)) w2 kb qb mb w.heap.size sqb smb ov ents ks draws n rs.length s2 ov2 sov2 buf rs→w1=w2.setChan w.heap.size n buf true rs.length 0 false →
   Calls Tryz.prog 90 #[.chan (some w.heap.size)] w1 fun e w'=>∃ lsa lsc L,e=.returned (.slice lsa rs.length lsc)∧Only (bG kb qb mb ov) w w'∧Moved w ov ov2∧KerP R base w' kb qb mb ov2 ents ks draws s2∧KOk ents ks.length draws s2∧aEs w w' kb qb mb ov2 (.slice lsa rs.length lsc) L rs):=by
  intro w1 sqb smb ov2 sov2 buf w2 hI hw1;obtain⟨L,hL1,hL2,hL3⟩:=aBi buf.toList rs (by rw[Array.length_toList,hI.size]) (fun j v r hv hr=>by
   obtain⟨sa,sc,e1,_⟩:=hI.recd j v r (by simpa using hv) hr
   exact⟨sa,sc,e1⟩)
  have hbL:buf=(L.map RecC.v).toArray:=by rw[←hL1]
  have hzA:=hI.only.size;simp only[World.size_alloc]at hzA;have ho1:Only (·=w.heap.size) w2 w1:=by rw[hw1];exact⟨rfl,rfl,rfl,by simp[World.setChan],fun k hk hn=>by simp only[World.setChan];rw[Array.getElem?_setIfInBounds_ne (fun e=>hn e.symm)]⟩
  have hch:w1.heap[w.heap.size]?=some (.chan n (L.map RecC.v).toArray true rs.length 0 false):=by rw[hw1,heap_setChan _ _ _ _ _ _ _ _ (by omega),hbL]
  have hz1:w1.heap.size=w2.heap.size:=by rw[hw1];exact size_setChan _ _ _ _ _ _ _ _
  refine(aA5 w1 w.heap.size n rs.length L (by omega) hch).mono ?_
  rintro e w' ⟨lv,rfl,hown,ho⟩;rw[hL2]at hown;obtain⟨lsa,lsc,rfl⟩:=bR hown;have hz':=ho.size;have hoc:Only (·=w.heap.size) w2 w':=ho1.trans ho
  have hget:∀ (j:Nat) x,L[j]?=some x→buf[j]?=some x.v:=by
   intro j x hx;rw[←Array.getElem?_toList,hL1];simp[hx]
  have hrec:∀ (j:Nat) x r,L[j]?=some x→rs[j]?=some r→w'.ownsRow w.heap.size 3 1 (.slice x.sa x.n x.sc) r.told.length (ints r.told):=by
   intro j x r hx hr;obtain⟨sa,sc,e1,e2⟩:=hI.recd j x.v r (hget j x hx) hr;simp only[RecC.v,gZ,Value.agg.injEq,Array.mk.injEq,List.cons.injEq,Value.slice.injEq]at e1;obtain⟨_,_,_,_,⟨rfl,h5,rfl⟩,_⟩:=e1;rw[h5];exact kL (bT e2 hoc (fun b hb hc=>(hI.rsep j x.v b (hget j x hx) (by rw[←h5]at hb;exact hb)).2.2.1 hc)) (by simp)
  have hlv:∀ b,some b=(Value.slice lsa rs.length lsc).ownBlock→w2.heap.size≤b:=fun b hb=>by have:=(hown.lt b hb.symm).1;omega
  refine⟨lsa,lsc,L,rfl,?_,?_,hI.ker.only hoc (fun b hb hc=>by subst hc;exact hI.ck hb) (fun b hb hc=>by subst hc;exact hI.cr hb),hI.ok,⟨hL2,?_,?_,?_,?_,?_⟩⟩
  ·refine⟨hoc.os.trans hI.only.os,hoc.tape.trans hI.only.tape,hoc.output.trans hI.only.output,by omega,?_⟩
   intro k hk hn;rw[hoc.block k (by omega) (by omega),hI.only.block k (by simp;omega) (fun hc=>by rcases hc with hc|hc;exact hn hc;omega),Below.heap_alloc _ _ _ hk]
  ·rcases hI.moved with e|⟨g,e,hg⟩
   ·exact .inl e
   ·exact .inr ⟨g,e,by simp at hg;omega⟩
  ·rw[hL2];exact kL hown (by omega)
  ·intro j x r hx hr;exact⟨(hL3 j x r hx hr).1,(hL3 j x r hx hr).2,hrec j x r hx hr⟩
  ·intro b hb hc;have:=hI.ker.lt b hc;have:=hlv b hb;omega
  ·intro j x b hx hb;obtain⟨s1,s2',s3,s4⟩:=hI.rsep j x.v b (hget j x hx) hb;refine⟨s1,fun hc=>?_⟩;have:=hlv b hc;omega
  ·intro j k x y b hx hy hb hb';exact hI.apart j k x.v y.v b (hget j x hx) (hget k y hy) hb hb'
 go_wp2_with (first
  | (go_at_call 89;refine HM.out.mono ?_;rintro e w1 ⟨rfl,sqb,smb,ov2,sov2,buf,w2,hI,hw1⟩;(have HC:=aB (HE.out w1 sqb smb ov2 sov2 buf w2 hI hw1));clear hI hw1)
  | (go_at_call 90;refine HC.out.mono ?_;rintro e w3 ⟨lsa,lsc,L,rfl,r1,r2,r3,r4,r5⟩))
 go_ret3
 exact⟨_,ov2,L,rfl,r1,r2,r3,r4,r5⟩
end Go.Proofs.YtndlmgocldckfaaGreat
