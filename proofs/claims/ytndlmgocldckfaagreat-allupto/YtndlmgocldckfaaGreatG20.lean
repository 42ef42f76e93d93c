import Derived.Test.YtndlmgocldckfaaGreatG19
import Derived.Test.YtndlmgocldckfaaGreatG07
namespace Go.Proofs.YtndlmgocldckfaaGreat
open Go.RowKit
set_option linter.unusedVariables false
set_option linter.unusedSimpArgs false
set_option maxRecDepth 100000
set_option maxHeartbeats 4000000
def sP(wb:Nat)(ps:List Pair)(bk:BookD)(b:Nat):Prop:=aAa ps b∨b=wb∨bk.bs b
theorem pF{base:Nat}(wb:Nat)(lv:Value)(ps:List Pair)(bk:BookD)(o:OpD)(w:World)(h:Inv base w wb lv ps bk)(ho:OpOK base w o)(hk:o.kind=3∨o.kind=4∨o.kind=5∨o.kind=6∨o.kind=7)(hps:0<ps.length)(hlen:(ps.length+1)*16≤140737488355328)(G:BookD→Prop)
  (hA:∀ (W':World) (p:Pair),Inv base W' wb lv ps bk→ps[gH o.a ps.length]?=some p→Calls Tryz.prog 17 #[.pointer (some ⟨wb,0,none⟩),.agg #[.pointer (some ⟨p.kb,0,none⟩),.pointer (some ⟨p.rb,0,none⟩)],.agg #[.int .i64 o.kind,.int .i64 o.a,.int .i64 o.b,.int .i64 o.c,.int .i64 o.d,.int .i64 o.ents,o.kv,o.l,o.rv,o.qv,o.sv]] W'
   fun e w'=>e=.returned (.bool true)∧Only (sP wb ps bk) W' w'∧∃ ps' bk',ps'.length=ps.length∧Inv base w' wb lv ps' bk'∧G bk') :
  Calls Tryz.prog 11 #[.pointer (some ⟨wb,0,none⟩),.agg #[.int .i64 o.kind,.int .i64 o.a,.int .i64 o.b,.int .i64 o.c,.int .i64 o.d,.int .i64 o.ents,o.kv,o.l,o.rv,o.qv,o.sv]] w
   fun e w'=>e=.returned (.bool true)∧Below base w w'∧∃ lv' ps' bk',ps'.length≤ps.length+1∧Inv base w' wb lv' ps' bk'∧G bk':=by
 have hbl:base≤w.heap.size:=Nat.le_trans h.blo (Nat.le_of_lt h.wlt);obtain⟨W,hW⟩:∃ W,W=w.alloc (.cells #[.int .i64 o.kind,.int .i64 o.a,.int .i64 o.b,.int .i64 o.c,.int .i64 o.d,.int .i64 o.ents,o.kv,o.l,o.rv,o.qv,o.sv] 41):=⟨_,rfl⟩;have hb:Below w.heap.size w W:=by rw[hW];exact(Below.refl _ _).alloc (Nat.le_refl _) _
 have hWs:W.heap.size=w.heap.size+1:=by rw[hW];simp
 have hI:=h.below hb;have c0:W.cell? ⟨w.heap.size,0,none⟩=some (.int .i64 o.kind):=by rw[hW];simp[go_sem]
 have c1:W.cell? ⟨w.heap.size,1,none⟩=some (.int .i64 o.a):=by rw[hW];simp[go_sem]
 have c2:W.cell? ⟨w.heap.size,2,none⟩=some (.int .i64 o.b):=by rw[hW];simp[go_sem]
 have c3:W.cell? ⟨w.heap.size,3,none⟩=some (.int .i64 o.c):=by rw[hW];simp[go_sem]
 have c4:W.cell? ⟨w.heap.size,4,none⟩=some (.int .i64 o.d):=by rw[hW];simp[go_sem]
 have c5:W.cell? ⟨w.heap.size,5,none⟩=some (.int .i64 o.ents):=by rw[hW];simp[go_sem]
 have c6:W.cell? ⟨w.heap.size,6,none⟩=some o.kv:=by rw[hW];simp[go_sem]
 have c7:W.cell? ⟨w.heap.size,7,none⟩=some o.l:=by rw[hW];simp[go_sem]
 have c8:W.cell? ⟨w.heap.size,8,none⟩=some o.rv:=by rw[hW];simp[go_sem]
 have c9:W.cell? ⟨w.heap.size,9,none⟩=some o.qv:=by rw[hW];simp[go_sem]
 have c10:W.cell? ⟨w.heap.size,10,none⟩=some o.sv:=by rw[hW];simp[go_sem]
 have hcell:=hI.cell;have hcw:=h.cell;have hwl:=h.wlt;have howns:=hI.owns;have hpk:=zJ o.a ps.length hps;obtain⟨p,hp⟩:∃ p,ps[gH o.a ps.length]?=some p:=⟨ps[gH o.a ps.length],by simp[hpk]⟩
 obtain⟨r0,r1⟩:=kV ps _ p hp;obtain⟨hnil,hn0,_⟩|⟨g,cap,rfl,hgb,hglt,hrow⟩:=bK howns
 ·omega
 have y0:=hrow _ _ r0;have y1:=hrow _ _ r1;simp only[Nat.zero_add]at y0 y1;have hgm:¬sP wb ps bk g:=by
  rintro (⟨q,hq,hm⟩|hm|hm)
  ·exact(hI.muts q hq g (.inl hm)).2.2.1 rfl
  ·exact hI.lne (by rw[←hm];rfl)
  ·exact(hI.bks g hm).2.2.2 rfl
 have hbm:¬sP wb ps bk w.heap.size:=by
  rintro (⟨q,hq,hm⟩|hm|hm)
  ·have:=(h.pairs q hq).lt _ (.inl hm);omega
  ·omega
  ·have:=(h.bks _ hm).2.1;omega
 have HA:Hid (∀ W',W'.heap=W.heap→W'.os=W.os→W'.tape=W.tape→W'.output=W.output→Calls Tryz.prog 17 #[.pointer (some ⟨wb,0,none⟩),.agg #[.pointer (some ⟨p.kb,0,none⟩),.pointer (some ⟨p.rb,0,none⟩)],.agg #[.int .i64 o.kind,.int .i64 o.a,.int .i64 o.b,.int .i64 o.c,.int .i64 o.d,.int .i64 o.ents,o.kv,o.l,o.rv,o.qv,o.sv]] W'
   fun e w'=>e=.returned (.bool true)∧Only (sP wb ps bk) W w'∧Hid (w'.cell? ⟨wb,0,none⟩=some (.slice (some ⟨g,0,none⟩) ps.length cap))∧∃ ps' bk',ps'.length=ps.length∧Inv base w' wb (.slice (some ⟨g,0,none⟩) ps.length cap) ps' bk'∧G bk'):=by
  intro W' h1 h2 h3 h4;have hbW:Below W.heap.size W W':=⟨h2,h3,h4,by rw[h1];exact Nat.le_refl _,fun k _=>by rw[h1]⟩
  refine(hA W' p (hI.below hbW) hp).mono ?_;rintro e w' ⟨rfl,ho,ps',bk',hl,hi,hg⟩;exact⟨rfl,(Only.new hbW).trans ho,hi.cell,ps',bk',hl,hi,hg⟩
 have k1:(o.kind==1)=false:=by rcases hk with e|e|e|e|e<;>simp[e]
 have k2:(o.kind==2)=false:=by rcases hk with e|e|e|e|e<;>simp[e]
 have k8:(o.kind==8)=false:=by rcases hk with e|e|e|e|e<;>simp[e]
 have k10:decide (10≤o.kind)=false:=by rcases hk with e|e|e|e|e<;>simp[e]
 have k3:decide (o.kind<3)=false:=by rcases hk with e|e|e|e|e<;>simp[e]
 have k9:decide (9<o.kind)=false:=by rcases hk with e|e|e|e|e<;>simp[e]
 have kl:((ps.length:Int)==0)=false:=by simp;intro e;simp[e]at hps
 have halo:=ho.alo;have hahi:=ho.ahi;have hpl:ps.length≤8796093022208:=by omega
 have HB:Hid (base≤w.heap.size∧(∀ b,sP wb ps bk b→base≤b)):=by
  refine⟨hbl,?_⟩;rintro b (⟨q,hq,hb⟩|hb|hb)
  ·exact(h.muts q hq b (.inl hb)).1
  ·rw[hb];exact h.blo
  ·exact(h.bks b hb).1
 have Hpk:=aB hpk;have hpk':(gH o.a ps.length:Int)<(ps.length:Int):=by omega
 have hpk0:(0:Int)≤(gH o.a ps.length:Int):=by omega
 obtain⟨x,hx⟩:∃ x,x=gH o.a ps.length:=⟨_,rfl⟩;have HX:=aB hx;rw[←hx]at y0 y1 hpk' hpk0 r0 r1 hpk;have HPick:Hid (∀ W',Calls Tryz.prog 18 #[.int .i64 o.a,.int .i64 ps.length] W' fun e w'=>e=.returned (.int .i64 x)∧w'=W'):=by
  intro W';have:=zK o.a ps.length W' hps (by omega) halo hahi
  rw[←hx]at this;exact this
 clear hx hk howns hrow r0 r1 hp h ho hI hlen halo hahi Hpk hA;have HW:=aB hW;clear hW
 go_enter Tryz.func11,Tryz.ntmps11
 go_wp2_with fail
 rw[←HW.out]
 go_region_held3 (fun W'=>W'.cell? ⟨wb,0,none⟩=some (.slice (some ⟨g,0,none⟩) ps.length cap)∧W'.cell? ⟨w.heap.size,0,none⟩=some (.int .i64 o.kind)∧W'.cell? ⟨w.heap.size,1,none⟩=some (.int .i64 o.a)∧W'.cell? ⟨w.heap.size,2,none⟩=some (.int .i64 o.b)∧W'.cell? ⟨w.heap.size,3,none⟩=some (.int .i64 o.c)∧W'.cell? ⟨w.heap.size,4,none⟩=some (.int .i64 o.d)∧W'.cell? ⟨w.heap.size,5,none⟩=some (.int .i64 o.ents)∧W'.cell? ⟨w.heap.size,6,none⟩=some o.kv∧W'.cell? ⟨w.heap.size,7,none⟩=some o.l∧W'.cell? ⟨w.heap.size,8,none⟩=some o.rv∧W'.cell? ⟨w.heap.size,9,none⟩=some o.qv∧W'.cell? ⟨w.heap.size,10,none⟩=some o.sv∧W'.cell? ⟨g,x*2,none⟩=some (.pointer (some ⟨p.kb,0,none⟩))∧W'.cell? ⟨g,x*2+1,none⟩=some (.pointer (some ⟨p.rb,0,none⟩)))
  (first|go_keep|exact⟨hc2.out,ho2.at c0 hbm,ho2.at c1 hbm,ho2.at c2 hbm,ho2.at c3 hbm,ho2.at c4 hbm,ho2.at c5 hbm,ho2.at c6 hbm,ho2.at c7 hbm,ho2.at c8 hbm,ho2.at c9 hbm,ho2.at c10 hbm,ho2.at y0 hgm,ho2.at y1 hgm⟩)
  (first|(go_at_call 18;refine(HPick.out _).mono ?_;rintro e w1 ⟨rfl,rfl⟩)|(go_at_call 17;refine(HA.out _ (by rfl) (by rfl) (by rfl) (by rfl)).mono ?_;rintro e w2 ⟨rfl,ho2,hc2,hI2⟩))
 all_goals
  go_wp2
  go_ret;obtain⟨ps',bk',hl',hI',hG'⟩:=hI2;exact⟨by simp,(hb.mono hbl).trans (ho2.below (by omega) (fun k hk hm=>by have:=HB.out.2 k hm;omega)),_,ps',bk',by omega,hI',hG'⟩
theorem aDy{base:Nat}(wb:Nat)(lv:Value)(ps:List Pair)(bk:BookD)(o:OpD)(w:World)(h:Inv base w wb lv ps bk)(ho:OpOK base w o)(hk:o.kind=3∨o.kind=5∨o.kind=6)(hps:0<ps.length)(hlen:(ps.length+1)*16≤140737488355328) :
  Calls Tryz.prog 11 #[.pointer (some ⟨wb,0,none⟩),.agg #[.int .i64 o.kind,.int .i64 o.a,.int .i64 o.b,.int .i64 o.c,.int .i64 o.d,.int .i64 o.ents,o.kv,o.l,o.rv,o.qv,o.sv]] w
   fun e w'=>e=.returned (.bool true)∧Below base w w'∧∃ lv' ps',ps'.length≤ps.length+1∧Inv base w' wb lv' ps' bk:=by
 refine(pF wb lv ps bk o w h ho (by omega) hps hlen (·=bk) ?_).mono ?_
 ·intro W' p hI hp;refine(aCc wb _ ps bk _ p o.kind o.a o.b o.c o.d o.ents o.kv o.l o.rv o.qv o.sv W' hI hp hk).mono ?_;rintro e w' ⟨rfl,ho,ps',hl,hi⟩;exact⟨rfl,ho.mono (fun b _ hb=>.inl hb),ps',bk,hl,hi,rfl⟩
 ·rintro e w' ⟨rfl,hB,lv',ps',bk',hl,hi,rfl⟩;exact⟨rfl,hB,lv',ps',hl,hi⟩
theorem oJ{ents:Int}{nk:Nat}:∀ (l:List Ins) (i:Nat),cK ents nk l i=none→∀ x∈l,aX ents nk x.op x.a x.b x.c=true
 | [],i,_,x,hx=>by simp at hx
 | y::l,i,h,x,hx=>by
  rw[cK]at h
  split at h
  ·rcases List.mem_cons.1 hx with rfl|hx
   ·assumption
   ·exact oJ l (i+1) h x hx
  ·simp at h
theorem nJ{ents:Int}{nk:Nat}:∀ (ks:List (List Ins)) (i:Nat),bM ents nk ks i=none→∀ l∈ks,l.length≤16∧∀ x∈l,aX ents nk x.op x.a x.b x.c=true
 | [],i,_,l,hl=>by simp at hl
 | y::ks,i,h,l,hl=>by
  rcases hc:gR ents nk y with _|p
  ·rw[bM,hc]at h;rcases List.mem_cons.1 hl with rfl|hl
   ·unfold gR at hc
    split at hc
    ·simp at hc
    ·exact⟨by omega,oJ l 0 hc⟩
   ·exact nJ ks (i+1) h l hl
  ·rw[bM,hc]at h;simp at h
theorem uO{ents:Int}{ks:List (List Ins)}(h:bE ents ks=none):lH ents ks:=by
 unfold bE at h
 split at h
 ·simp at h
 ·exact nJ ks 0 h
theorem aDt{draws:List Int}(h:cO draws=true):mX draws:=by
 intro d hd;simp only[cO,Bool.and_eq_true,List.all_eq_true]at h;have:=h.2 d hd;simp[oD,inB]at this;exact this
def aP(k:BkD):BookD:=⟨k.bv,k.iv,k.rv,k.set,fun w=>BkOK w k⟩
theorem nK(k:BkD):(aP k).stable:=fun w w' S h ho hS=>BkOK.only h ho hS
def bk0:BkD:=⟨.slice none 0 0,.slice none 0 0,.slice none 0 0,[],[],[]⟩
theorem sL(b:Nat):¬bk0.ents b:=by rintro⟨v,hv,_⟩;simp[bk0]at hv
theorem aFc(b:Nat):¬bk0.set b:=by
 rintro (hb|hb|hb|hb)
 ·exact sL b hb
 ·simp[bk0,Value.ownBlock]at hb
 ·simp[bk0,Value.ownBlock]at hb
 ·simp[bk0,Value.ownBlock]at hb
theorem aG6(w:World):BkOK w bk0:=
 ⟨World.ownsRow_nil _ _ _ _,World.ownsRow_nil _ _ _ _,World.ownsRow_nil _ _ _ _,by simp[bk0],by simp[bk0],by simp[bk0],fun b hb=>absurd hb (sL b),fun b hb=>absurd hb (sL b),by simp[bk0,Value.ownBlock],by simp[bk0,Value.ownBlock],by simp[bk0,Value.ownBlock],by simp[bk0],by simp[bk0]⟩
theorem aA6(w:World)(T:TypeId):Inv w.heap.size (w.alloc (.cells #[.slice none 0 0,.slice none 0 0,.slice none 0 0,.slice none 0 0] T)) w.heap.size (.slice none 0 0) [] (aP bk0):=by
 refine⟨by simp[go_sem],⟨by simp[go_sem,aP,bk0],by simp[go_sem,aP,bk0],by simp[go_sem,aP,bk0]⟩,?_,World.ownsRow_nil _ _ _ _,by simp[Value.ownBlock],Nat.le_refl _,by simp,by simp,by simp,fun b hb=>absurd hb (aFc b),aG6 _,nK _⟩
 intro j hj;have:j=0∨j=1∨j=2∨j=3:=by omega
 rcases this with rfl|rfl|rfl|rfl<;>simp[go_sem]
section
variable {base : Nat} {w w' : World} {wb : Nat} {lv : Value} {ps : List Pair} {k k' : BkD}
theorem Inv.bkp(h:Inv base w wb lv ps (aP k)):BkP w wb k:=⟨h.bok,fun hc=>(h.bks wb hc).2.2.1 rfl,h.room,h.book.1,h.book.2.1,h.book.2.2⟩
theorem Inv.bookStep{S:Nat→Prop}(h:Inv base w wb lv ps (aP k))(hs:BkStep wb k k' S w w')(hS:∀ b,S b→base≤b∧b<w.heap.size∧b≠wb∧some b≠lv.ownBlock∧∀ p∈ps,¬p.own b):Inv base w' wb lv ps (aP k'):=by
 have hz:=hs.only.size;have hlo:=h.lo;refine⟨hs.c0 _ h.cell,⟨hs.p.c1,hs.p.c2,hs.p.c3⟩,hs.p.room,aN h.owns hs.only ?_,h.lne,h.blo,fun p hp=>(h.pairs p hp).only hs.only ?_,?_,h.apart,?_,hs.p.ok,nK _⟩
 ·rintro b hb (e|e|e)
  ·exact h.lne (by rw[←hb,e])
  ·exact(h.bks b e).2.2.2 hb
  ·exact(hS b e).2.2.2.1 hb
 ·rintro b hb (e|e|e)
  ·exact(h.muts p hp b hb).2.1 e
  ·exact(h.muts p hp b hb).2.2.2 e
  ·exact(hS b e).2.2.2.2 p hp hb
 ·intro p hp b hb;obtain⟨m1,m2,m3,m4⟩:=h.muts p hp b hb;refine⟨m1,m2,m3,fun hc=>?_⟩;rcases hs.sub b hc with e|e|e
  ·exact m4 e
  ·exact(hS b e).2.2.2.2 p hp hb
  ·have:=(h.pairs p hp).lt b hb;omega
 ·intro b hb;refine⟨?_,hs.p.ok.lt b hb,fun e=>hs.p.nw (e▸hb),?_⟩
  ·rcases hs.sub b hb with e|e|e
   ·exact(h.bks b e).1
   ·exact(hS b e).1
   ·omega
  ·intro hc;rcases hs.sub b hb with e|e|e
   ·exact(h.bks b e).2.2.2 hc
   ·exact(hS b e).2.2.2.1 hc
   ·have:=(h.owns.lt b hc.symm).2;omega
end
theorem uF{Z:Nat}(wb:Nat)(k:BkD)(la:Option Addr)(n lc:Nat)(xs:List Value)(w:World)(h:BkP w wb k)(hl:w.ownsRow Z 3 1 (.slice la n lc) n xs)(hZ:Z≤w.heap.size)(hn:n≤1000000)(h4:k.il.length % 4=0)(hlen:k.il.length≤1099511627776)(hls:∀ b,some b=(Value.slice la n lc).ownBlock→¬k.set b∧b≠wb) :
  Calls Tryz.prog 108 #[.pointer (some ⟨wb,1,none⟩),.slice la n lc] w fun e w'=>e=.returned (.tuple #[])∧∃ k',BkStep wb k k' (fun b=>some b=(Value.slice la n lc).ownBlock) w w'∧k'.il.length=k.il.length+4∧k'.rl=k.rl∧k'.bl=k.bl:=by
 obtain⟨K,hK⟩:∃ K:BkD,K=k:=⟨_,rfl⟩;have HK:=aB hK;clear hK;have hc2:=h.c2;obtain⟨ia,ic,hiv⟩:=aM h.ok.iown;rw[hiv]at hc2;have H:=aB h;have Hl:=aB hl;have Hiv:=aB hiv;obtain⟨m,hm⟩:∃ m:Int,m=-1000-((k.il.length / 4:Nat):Int):=⟨_,rfl⟩;have Hm:=aB hm;have hwl:=h.lt;clear h hl hiv hm
 go_enter Tryz.func108,Tryz.ntmps108
 go_wp2
 have hme:(-1000-(k.il.length:Int) / 4)=m:=by rw[Hm.out];omega
 rw[hme];clear hme
 go_loopw [5] (fun i wr=>∃ (j:Nat),j≤n∧i=.int .i64 j∧Hid (MarkI w wr Z 3 (.slice la n lc) n [.int .i64 m] j)) (fun i _=>n-(intOf i).toNat)
 case atStart=>exact⟨0,Nat.zero_le _,rfl,Only.refl _ _,⟨xs,Hl.out⟩,fun g _ i u hu=>by simp[aZ]at hu⟩
 case round=>
  obtain⟨j,hj,rfl,hI⟩:=hrel
  by_cases hlt:j<n
  ·have d1:decide ((j:Int)<(n:Int))=true:=by simp;omega
   have hjj:(j:Int)<(n:Int):=by omega
   have hw:IntKind.i64.wrap ((j:Int)+1)=(j:Int)+1:=by rw[IntKind.wrap_i64];omega
   obtain⟨ys,hy⟩:=hI.out.own;obtain⟨g,rfl,hat⟩:=oC hy (by omega)
   obtain⟨⟨u,hu⟩,hfz⟩:=hat j (by simpa using hlt)
   clear hat hy
   go_wp2_with fail
   go_roundw
   case rel=>exact⟨j+1,by omega,by go_num,hI.out.next1 hlt⟩
   case measure=>simp[intOf];omega
  ·have d1:decide ((j:Int)<(n:Int))=false:=by simp;omega
   have hjn:j=n:=by omega
   subst hjn;rename World=>wr;have HO:=aB hI.out.out;have HOn:=aB hI.out.only;clear hI;have hzr:=HOn.out.size;have HMK:Hid (∀ u∈[Value.int .i64 m],u.oneCell'=true):=by intro u hu;simp at hu;subst hu;rfl
   go_wp2_with (at_builtin;refine cH rfl (.tmp 26) (.tmp 28) 24 rfl Z 3 (.int .i64 0) 1 8 Tryz.underlying24 Tryz.info3 rfl (by omega) _ j (aZ j [.int .i64 m]) rfl (HO.out.alloc _) wr.heap.size 1 1 (by omega) (aZ 1 [.int .i64 m]) rfl (bD wr _ (aZ 1 [.int .i64 m])) (by rw[bS];rfl) (kD HMK.out) (by omega) (by omega) (by simp;omega) ?_)
   intro v1 w1 hown1 hg1 hk1;rw[←fF]at hown1;obtain⟨va1,vc1,rfl⟩:=aM hown1.out;have hz1:=hg1.out.size;simp only[World.size_alloc]at hz1
   go_wp2_with (at_builtin;refine cH rfl (.tmp 30) (.tmp 33) 24 rfl Z 3 (.int .i64 0) 1 8 Tryz.underlying24 Tryz.info3 rfl (by omega) _ j (aZ j [.int .i64 m]) rfl (hk1.out.1.alloc _) w1.heap.size 2 2 (by omega) (aZ 2 [.int .i64 m]) rfl (bD w1 _ (aZ 2 [.int .i64 m])) (by rw[bS];rfl) (kD HMK.out) (by omega) (by omega) (by simp;omega) ?_)
   intro v2 w2 hown2 hg2 hk2;rw[←fF]at hown2;obtain⟨va2,vc2,rfl⟩:=aM hown2.out;have hz2:=hg2.out.size;simp only[World.size_alloc]at hz2
   go_wp2_with (at_builtin;refine cH rfl (.tmp 35) (.tmp 39) 24 rfl Z 3 (.int .i64 0) 1 8 Tryz.underlying24 Tryz.info3 rfl (by omega) _ j (aZ j [.int .i64 m]) rfl (hk2.out.1.alloc _) w2.heap.size 3 3 (by omega) (aZ 3 [.int .i64 m]) rfl (bD w2 _ (aZ 3 [.int .i64 m])) (by rw[bS];rfl) (kD HMK.out) (by omega) (by omega) (by simp;omega) ?_)
   intro v3 w3 hown3 hg3 hk3;rw[←fF]at hown3;obtain⟨va3,vc3,rfl⟩:=aM hown3.out;have hz3:=hg3.out.size;simp only[World.size_alloc]at hz3;have HP0:=aB (nL H.out (by omega) hls HOn.out (pR (x:=[.int .i64 m]) HO.out (aE _ _) hown1.out hg1.out hk1.out (by simp) (aE _ _) hown2.out hg2.out hk2.out (by simp) (aE _ _) hown3.out hg3.out hk3.out (by simp)))
   clear hown1 hg1 hk1 hown2 hg2 hk2 hown3 hg3 hk3 HO HOn H hls Hl hwl;have hL0:Hid (k.il.length=K.il.length+0∧k.rl=K.rl∧k.bl=K.bl):=by rw[HK.out];exact⟨rfl,rfl,rfl⟩
   have e0:=HP0.out.st.p.c2;have hw0:=HP0.out.st.p.lt;have hmk0:Hid (lQ k.il.length=[.int .i64 m]):=by show _=_;rw[Hm.out];rfl
   have hlen0:k.il.length≤1099511627776+0:=by have:=hL0.out.1;rw[HK.out]at this;omega
   go_wp2_with (at_builtin;refine aD rfl (.tmp 45) (.tmp 47) 30 rfl 0 24 (.slice none 0 0) 1 24 Tryz.underlying30 Tryz.infoIs rfl (by omega) _ k.il.length k.il rfl (HP0.out.st.p.ok.iown.alloc _) _ 1 [(.slice la j lc)] rfl (.inr (.inl ⟨w3.heap.size,0,1,rfl,bD w3 _ [(.slice la j lc)]⟩)) rfl (by intro u hu;simp at hu;subst hu;rfl) (by omega) (by omega) (by omega) ?_)
   intro u0 x0 xo0 xg0 xw0;obtain⟨f0,z0⟩:=HP0.out.midI (aE _ _) xg0.out;obtain⟨ua0,uc0,rfl⟩:=aM xo0.out;have HQ0:=aB (HP0.out.pushI hmk0.out (aE _ _) xg0.out xo0.out (by simpa using xw0.out))
   obtain⟨k1,hkn0⟩:∃ zz:BkD,zz={k with iv:=.slice ua0 (k.il.length+1) uc0,il:=k.il++[(.slice la j lc)]}:=⟨_,rfl⟩;have hL1:Hid (k1.il.length=K.il.length+1∧k1.rl=K.rl∧k1.bl=K.bl):=by
    have:=hL0.out;rw[hkn0];exact⟨by simp only[List.length_append,List.length_cons,List.length_nil];omega,this.2.1,this.2.2⟩
   have hiv1:Hid (k1.iv=.slice ua0 (k.il.length+1) uc0):=by show _=_;rw[hkn0]
   rw[←hkn0]at HQ0;obtain⟨y1,hy1⟩:∃ y,Hid (y=x0.setCell ⟨wb,2,none⟩ (.slice ua0 (k.il.length+1) uc0)):=⟨_,rfl⟩;have hsz1:Hid (y1.heap.size=x0.heap.size):=by show _=_;rw[hy1.out];simp[World.setCell]
   have HP1:=HQ0;rw[←hy1.out]at HP1;clear hkn0 xo0 xg0 xw0 hmk0 HQ0 HP0 e0;have hw1:=HP1.out.st.p.lt;have hmk1:Hid (lQ k1.il.length=[.int .i64 m]):=by show _=_;have q1:=hL1.out.1;have q2:=h4;rw[←HK.out]at q2;rw[Hm.out,lQ,←HK.out,q1];congr 3;try omega
   have hlen1:k1.il.length≤1099511627776+1:=by have:=hL1.out.1;rw[HK.out]at this;omega
   go_wp2_with (at_builtin;rw[←hy1.out];refine aD rfl (.tmp 55) (.tmp 57) 30 rfl 0 24 (.slice none 0 0) 1 24 Tryz.underlying30 Tryz.infoIs rfl (by omega) _ k1.il.length k1.il rfl ((fZ hiv1.out HP1.out.st.p.ok.iown).alloc _) _ 1 [(.slice va1 (j+1) vc1)] rfl (.inr (.inl ⟨x0.heap.size,0,1,rfl,nC hsz1.out (bD y1 _ [(.slice va1 (j+1) vc1)])⟩)) rfl (by intro u hu;simp at hu;subst hu;rfl) (by omega) (by omega) (by omega) ?_)
   intro u1 x1 xo1 xg1 xw1;rw[←hiv1.out]at xg1 xw1;obtain⟨f1,z1⟩:=HP1.out.midI (aE _ _) xg1.out;obtain⟨ua1,uc1,rfl⟩:=aM xo1.out;have HQ1:=aB (HP1.out.pushI hmk1.out (aE _ _) xg1.out xo1.out (by simpa using xw1.out))
   obtain⟨k2,hkn1⟩:∃ zz:BkD,zz={k1 with iv:=.slice ua1 (k1.il.length+1) uc1,il:=k1.il++[(.slice va1 (j+1) vc1)]}:=⟨_,rfl⟩;have hL2:Hid (k2.il.length=K.il.length+2∧k2.rl=K.rl∧k2.bl=K.bl):=by
    have:=hL1.out;rw[hkn1];exact⟨by simp only[List.length_append,List.length_cons,List.length_nil];omega,this.2.1,this.2.2⟩
   have hiv2:Hid (k2.iv=.slice ua1 (k1.il.length+1) uc1):=by show _=_;rw[hkn1]
   rw[←hkn1]at HQ1;obtain⟨y2,hy2⟩:∃ y,Hid (y=x1.setCell ⟨wb,2,none⟩ (.slice ua1 (k1.il.length+1) uc1)):=⟨_,rfl⟩;have hsz2:Hid (y2.heap.size=x1.heap.size):=by show _=_;rw[hy2.out];simp[World.setCell]
   have HP2:=HQ1;rw[←hy2.out]at HP2;clear hkn1 xo1 xg1 xw1 hmk1 HQ1 HP1;have hw2:=HP2.out.st.p.lt;have hmk2:Hid (lQ k2.il.length=[.int .i64 m]):=by show _=_;have q1:=hL2.out.1;have q2:=h4;rw[←HK.out]at q2;rw[Hm.out,lQ,←HK.out,q1];congr 3;try omega
   have hlen2:k2.il.length≤1099511627776+2:=by have:=hL2.out.1;rw[HK.out]at this;omega
   go_wp2_with (at_builtin;rw[←hy2.out];refine aD rfl (.tmp 65) (.tmp 67) 30 rfl 0 24 (.slice none 0 0) 1 24 Tryz.underlying30 Tryz.infoIs rfl (by omega) _ k2.il.length k2.il rfl ((fZ hiv2.out HP2.out.st.p.ok.iown).alloc _) _ 1 [(.slice va2 (j+2) vc2)] rfl (.inr (.inl ⟨x1.heap.size,0,1,rfl,nC hsz2.out (bD y2 _ [(.slice va2 (j+2) vc2)])⟩)) rfl (by intro u hu;simp at hu;subst hu;rfl) (by omega) (by omega) (by omega) ?_)
   intro u2 x2 xo2 xg2 xw2;rw[←hiv2.out]at xg2 xw2;obtain⟨f2,z2⟩:=HP2.out.midI (aE _ _) xg2.out;obtain⟨ua2,uc2,rfl⟩:=aM xo2.out;have HQ2:=aB (HP2.out.pushI hmk2.out (aE _ _) xg2.out xo2.out (by simpa using xw2.out))
   obtain⟨k3,hkn2⟩:∃ zz:BkD,zz={k2 with iv:=.slice ua2 (k2.il.length+1) uc2,il:=k2.il++[(.slice va2 (j+2) vc2)]}:=⟨_,rfl⟩;have hL3:Hid (k3.il.length=K.il.length+3∧k3.rl=K.rl∧k3.bl=K.bl):=by
    have:=hL2.out;rw[hkn2];exact⟨by simp only[List.length_append,List.length_cons,List.length_nil];omega,this.2.1,this.2.2⟩
   have hiv3:Hid (k3.iv=.slice ua2 (k2.il.length+1) uc2):=by show _=_;rw[hkn2]
   rw[←hkn2]at HQ2;obtain⟨y3,hy3⟩:∃ y,Hid (y=x2.setCell ⟨wb,2,none⟩ (.slice ua2 (k2.il.length+1) uc2)):=⟨_,rfl⟩;have hsz3:Hid (y3.heap.size=x2.heap.size):=by show _=_;rw[hy3.out];simp[World.setCell]
   have HP3:=HQ2;rw[←hy3.out]at HP3;clear hkn2 xo2 xg2 xw2 hmk2 HQ2 HP2;have hw3:=HP3.out.st.p.lt;have hmk3:Hid (lQ k3.il.length=[.int .i64 m]):=by show _=_;have q1:=hL3.out.1;have q2:=h4;rw[←HK.out]at q2;rw[Hm.out,lQ,←HK.out,q1];congr 3;try omega
   have hlen3:k3.il.length≤1099511627776+3:=by have:=hL3.out.1;rw[HK.out]at this;omega
   go_wp2_with (at_builtin;rw[←hy3.out];refine aD rfl (.tmp 75) (.tmp 77) 30 rfl 0 24 (.slice none 0 0) 1 24 Tryz.underlying30 Tryz.infoIs rfl (by omega) _ k3.il.length k3.il rfl ((fZ hiv3.out HP3.out.st.p.ok.iown).alloc _) _ 1 [(.slice va3 (j+3) vc3)] rfl (.inr (.inl ⟨x2.heap.size,0,1,rfl,nC hsz3.out (bD y3 _ [(.slice va3 (j+3) vc3)])⟩)) rfl (by intro u hu;simp at hu;subst hu;rfl) (by omega) (by omega) (by omega) ?_)
   intro u3 x3 xo3 xg3 xw3;rw[←hiv3.out]at xg3 xw3;obtain⟨f3,z3⟩:=HP3.out.midI (aE _ _) xg3.out;obtain⟨ua3,uc3,rfl⟩:=aM xo3.out;have HQ3:=aB (HP3.out.pushI hmk3.out (aE _ _) xg3.out xo3.out (by simpa using xw3.out))
   obtain⟨k4,hkn3⟩:∃ zz:BkD,zz={k3 with iv:=.slice ua3 (k3.il.length+1) uc3,il:=k3.il++[(.slice va3 (j+3) vc3)]}:=⟨_,rfl⟩;have hL4:Hid (k4.il.length=K.il.length+4∧k4.rl=K.rl∧k4.bl=K.bl):=by
    have:=hL3.out;rw[hkn3];exact⟨by simp only[List.length_append,List.length_cons,List.length_nil];omega,this.2.1,this.2.2⟩
   have hiv4:Hid (k4.iv=.slice ua3 (k3.il.length+1) uc3):=by show _=_;rw[hkn3]
   rw[←hkn3]at HQ3;obtain⟨y4,hy4⟩:∃ y,Hid (y=x3.setCell ⟨wb,2,none⟩ (.slice ua3 (k3.il.length+1) uc3)):=⟨_,rfl⟩;have hsz4:Hid (y4.heap.size=x3.heap.size):=by show _=_;rw[hy4.out];simp[World.setCell]
   have HP4:=HQ3;rw[←hy4.out]at HP4;clear hkn3 xo3 xg3 xw3 hmk3 HQ3 HP3
   go_wp2_with fail
   rw[←hy4.out];refine bodyPost_end (results_none rfl _ _ _) rfl ?_;exact⟨rfl,k4,HP4.out.st.done,by rw[←HK.out];exact hL4.out⟩
end Go.Proofs.YtndlmgocldckfaaGreat
