import Derived.Test.YtndlmgocldckfaaGreatG08
import Derived.Test.YtndlmgocldckfaaGreatG25
import Derived.Test.YtndlmgocldckfaaGreatG03
import Derived.Lib.ConvBytes
import Derived.Test.YtndlmgocldckfaaGreatG02
import Derived.Test.YtndlmgocldckfaaGreatG11
import Derived.Test.YtndlmgocldckfaaGreatG21
import Derived.Test.YtndlmgocldckfaaGreatG13
import Derived.Deep.RegionHeld3
namespace Go.Proofs.YtndlmgocldckfaaGreat
open Go.RowKit
set_option linter.unusedVariables false
set_option linter.unusedSimpArgs false
set_option maxRecDepth 100000
set_option maxHeartbeats 4000000
theorem SpareR.only{S:Nat→Prop}{w w':World}{g n k:Nat}(h:SpareR w g n k)(ho:Only S w w')(hg:¬S g):SpareR w' g n k:=
 fun i h1 h2=>(h i h1 h2).only ho hg
def LentQ(lo hi top:Nat)(w:World)(v a m:Value)(rs:List Rec):Prop:=rs.length≤1048576 ∧
 ((v=.slice none 0 0∧rs=[]∧a=.slice none 0 0∧m=.slice none 0 0) ∨
  ∃ ra b off cap g h ss,v=.slice (some ra) rs.length cap∧(0<rs.length→ra=⟨b,off,none⟩)∧a=.slice (some ⟨g,0,none⟩) rs.length (rs.length+8)∧m=.slice (some ⟨h,0,none⟩) rs.length rs.length∧LentR lo hi w g h b off rs.length ss rs∧SpareR w g rs.length (rs.length+8)∧∀ y,zT g ss y→hi≤y∧y<top)
theorem LentQ.only{S:Nat→Prop}{lo hi top:Nat}{w w':World}{v a m:Value}{rs:List Rec}(x:LentQ lo hi top w v a m rs)(ho:Only S w w')(hS:∀ b,S b→lo≤b∧b<hi):LentQ lo hi top w' v a m rs:=by
 obtain⟨h0,h|⟨ra,b,off,cap,g,h,ss,h1,h2,h3,h4,h5,h6,h7⟩⟩:=x
 ·exact⟨h0,.inl h⟩
 ·exact⟨h0,.inr ⟨ra,b,off,cap,g,h,ss,h1,h2,h3,h4,h5.only ho hS,h6.only ho (fun hc=>by have:=hS g hc;have:=h5.glo;omega),h7⟩⟩
theorem LentQ.below{lo hi top:Nat}{w w':World}{v a m:Value}{rs:List Rec}(x:LentQ lo hi top w v a m rs)(hb:Below w.heap.size w w'):LentQ lo hi top w' v a m rs:=
 x.only (Only.new (S:=fun _=>False) hb) (by simp)
theorem LentQ.recIn{lo hi top:Nat}{w:World}{v a m:Value}{rs:List Rec}(x:LentQ lo hi top w v a m rs):∃ sa sc,a=.slice sa rs.length sc∧RecIn w sa rs:=by
 obtain⟨h0,⟨_,rfl,rfl,_⟩|⟨ra,b,off,cap,g,h,ss,h1,h2,rfl,h4,h5,h6,h7⟩⟩:=x
 ·exact⟨none,0,rfl,fun i r hr=>by simp at hr⟩
 ·exact⟨_,_,rfl,h5.recIn⟩
theorem hY{B:Nat}(v:Value)(rs:List Rec)(w:World)(hv:RecsX B w v rs)(hB:B≤w.heap.size)(hB0:0<B) :
  Calls Tryz.prog 37 #[v] w fun e w'=>∃ sa sc ma mn mc,e=.returned (.tuple #[.slice sa rs.length sc,.slice ma mn mc])∧Below w.heap.size w w'∧LentQ B w.heap.size w'.heap.size w' v (.slice sa rs.length sc) (.slice ma mn mc) rs:=by
 obtain⟨h0,⟨rfl,rfl⟩|⟨a,b',off',cap,rfl,h2',h4'⟩⟩:=hv
 ·refine(rA w).mono ?_;rintro e w' ⟨rfl,rfl⟩;exact⟨none,0,none,0,0,rfl,Below.refl _ _,by simp,.inl ⟨rfl,rfl,rfl,rfl⟩⟩
 ·obtain⟨b,off,h2,h3,h4⟩:∃ b off,(0<rs.length→a=⟨b,off,none⟩)∧b<B∧RecsAtX B w b off rs:=by
   by_cases hp:0<rs.length
   ·exact⟨b',off',fun h=>(h2' h).1,(h2' hp).2,h4'⟩
   ·exact⟨0,0,fun h=>absurd h hp,hB0,fun i r hr=>by have:=(List.getElem?_eq_some_iff.1 hr).1;omega⟩
  refine(rB a b off cap rs w h2 h0 hB h3 h4).mono ?_;rintro e w' ⟨g,h,ss,rfl,hb,hL,hS⟩;refine⟨_,_,_,_,_,rfl,hb,h0,.inr ⟨a,b,off,cap,g,h,ss,rfl,h2,rfl,rfl,hL,hS,?_⟩⟩;rintro y (rfl|⟨i,s,q1,q2⟩)
  ·exact⟨hL.glo,hL.ghi⟩
  ·have:=hL.sep i s y q1 q2;omega
theorem fA{lo hi top:Nat}(v a m:Value)(rs:List Rec)(w:World)(x:LentQ lo hi top w v a m rs) :
  Calls Tryz.prog 40 #[a,m,v] w fun e w'=>e=.returned (.bool true)∧Only (fun y=>hi≤y∧y<top) w w':=by
 obtain⟨h0,⟨rfl,rfl,rfl,rfl⟩|⟨ra,b,off,cap,g,h,ss,rfl,h2,rfl,rfl,h5,h6,h7⟩⟩:=x
 ·refine(pO _ _ w).mono ?_;rintro e w' ⟨rfl,rfl⟩;exact⟨rfl,Only.refl _ _⟩
 ·refine(pP ra lo hi g h b off cap ss rs w h2 h0 h5 h6).mono ?_;rintro e w' ⟨rfl,ho⟩;exact⟨rfl,ho.mono (fun k _ hk=>h7 k hk)⟩
structure OpAt(W:World)(ob:Nat)(kind b:Int)(rv qv sv:Value):Prop where
 c0:W.cell? ⟨ob,0,none⟩=some (.int .i64 kind)
 c2:W.cell? ⟨ob,2,none⟩=some (.int .i64 b)
 c8:W.cell? ⟨ob,8,none⟩=some rv
 c9:W.cell? ⟨ob,9,none⟩=some qv
 c10:W.cell? ⟨ob,10,none⟩=some sv
theorem OpAt.new(w:World)(kind a b c d ents:Int)(kv l rv qv sv:Value)(T:TypeId):OpAt (w.alloc (.cells #[.int .i64 kind,.int .i64 a,.int .i64 b,.int .i64 c,.int .i64 d,.int .i64 ents,kv,l,rv,qv,sv] T)) w.heap.size kind b rv qv sv:=
 ⟨by simp[go_sem],by simp[go_sem],by simp[go_sem],by simp[go_sem],by simp[go_sem]⟩
theorem OpAt.below{W W':World}{ob:Nat}{kind b:Int}{rv qv sv:Value}{B:Nat}(h:OpAt W ob kind b rv qv sv)(hb:Below B W W')(ho:ob<B):OpAt W' ob kind b rv qv sv:=
 ⟨aA hb h.c0 ho,aA hb h.c2 ho,aA hb h.c8 ho,aA hb h.c9 ho,aA hb h.c10 ho⟩
def xN(s:ByteArray):List Int:=s.data.toList.map fun b=>(b.toNat:Int)
theorem qP(s:ByteArray):(xN s).length=s.size:=by simp[xN]
theorem pQ(w:World)(e:TypeId)(s:ByteArray):Below w.heap.size w (Lib.bytesWorld w e s):=
 ⟨rfl,rfl,rfl,by rw[Lib.bytesWorld_size];omega,fun k hk=>Lib.bytesWorld_at_old w e s k hk⟩
theorem uE(w:World)(s:ByteArray)(hs:s.size≤1000):BRow w.heap.size (Lib.bytesWorld w 5 s) (.slice (some ⟨w.heap.size,0,none⟩) (xN s).length (grownCap w s.size 0 5)) (xN s):=by
 have hge:=grownCap_ge w s.size 0 5;have hcm:grownCap w s.size 0 5≤maxLen:=grownCap_le_maxLen w s.size 0 5 (by simp only[maxLen];omega)
 have hl:=qP s;have hsz:(Lib.bytesCells w 5 s).size=grownCap w s.size 0 5:=by
  simp[Lib.bytesCells];have:s.data.size=s.size:=rfl;omega
 refine⟨w.heap.size,_,_,_,rfl,Nat.le_refl _,Lib.bytesWorld_at_new w 5 s,?_,by omega,hcm,hsz,?_⟩
 ·intro i hi;simp;omega
 ·have:(Lib.bytesCells w 5 s).toList=aI (xN s)++List.replicate (grownCap w s.size 0 5-s.size) (.int .u8 0):=by
   simp[Lib.bytesCells,aI,xN,Function.comp_def]
  rw[this,show(xN s).length=(aI (xN s)).length by simp[aI]]
  exact List.take_left
theorem wQ(w:World)(s:ByteArray)(hs:s.size≤1000) :
  Calls Tryz.prog 75 #[.string s] w fun e w'=>∃ wb lv,e=.returned (.pointer (some ⟨wb,0,none⟩))∧Below w.heap.size w w'∧w.heap.size≤wb∧WrP w.heap.size w' wb lv (xN s)∧(∀ b,some b=lv.ownBlock→w.heap.size≤b):=by
 have hcv:=Lib.run_convert_string_bytes (P:=Tryz.prog) w 9 56 5 s Tryz.underlying9 Tryz.underlying56 Tryz.underlying5;have hrow:=uE w s hs;have hbel:=pQ w 5 s;have hsz:=Lib.bytesWorld_size w 5 s;generalize Lib.bytesWorld w 5 s=W1 at hcv hrow hbel hsz;generalize grownCap w s.size 0 5=cap at hcv hrow;rw[qP]at hrow;have Hrow:=aB hrow;have Hbel:=aB hbel;clear hrow hbel
 go_enter Tryz.func75,Tryz.ntmps75
 go_wp2_with fail
 go_ret;obtain⟨W2,hW2⟩:∃ W2,W2=W1.alloc (.cells #[.slice (some ⟨w.heap.size,0,none⟩) s.size cap] 167):=⟨_,rfl⟩;have hb2:Below W1.heap.size W1 W2:=by rw[hW2];exact(Below.refl _ _).alloc (Nat.le_refl _) _
 rw[←hW2];refine⟨w.heap.size+1,_,rfl,Hbel.out.trans (hb2.mono (by omega)),by omega,⟨?_,?_,Hrow.out.keep (Only.new (S:=fun _=>False) hb2) (by simp),?_⟩,?_⟩
 ·rw[hW2,World.cell?_alloc_at _ _ _ _ hsz.symm];rfl
 ·intro j hj;obtain rfl:j=0:=by omega
  rw[hW2,World.cell?_alloc_at _ _ _ _ hsz.symm,World.frozen?_alloc_at _ _ _ _ hsz.symm];exact⟨rfl,rfl⟩
 ·simp[Value.ownBlock]
 ·intro b hb;simp[Value.ownBlock]at hb;omega
theorem kB{fn:Func}{p:Tmp}{ty:TypeId}(h:fn.results=#[.cell p ty])(tmps:Array Value)(P:Program)(w:World) :
  (results fn tmps).run P w=((asAddr (tmps.getD p undef)).run P w).andThen fun a w₁=>(loadVar ty a).run P w₁:=by
 simp only[results,h];simp[Sem.run_bind,Result.andThen]
def uW(s c:Int):Int:=((33*s) % 4294967296+c) % 4294967296
def eL(l:List Int):Int:=l.foldl uW 5381
def fE(l:List Int):List Int:=[eL l / 16777216 % 256,eL l / 65536 % 256,eL l / 256 % 256,eL l % 256]
theorem aBn(s c:Int):0≤uW s c∧uW s c<4294967296:=by unfold uW;omega
theorem xO(l:List Int):0≤eL l∧eL l<4294967296:=by
 unfold eL;rcases List.eq_nil_or_concat l with rfl|⟨l',x,rfl⟩
 ·simp
 ·simp only[List.concat_eq_append,List.foldl_append,List.foldl_cons,List.foldl_nil];exact aBn _ _
theorem aBo(w:World)(b off cap:Nat)(l:List Int)(hrow:RowAt w b off (aI l))(hl:l.length≤2000000000000000)(hv:∀ c∈l,0≤c∧c<256) :
  Calls Tryz.prog 102 #[.slice (some ⟨b,off,none⟩) l.length cap] w fun e w'=>e=.returned (.agg #[.int .u8 (eL l / 16777216 % 256),.int .u8 (eL l / 65536 % 256),.int .u8 (eL l / 256 % 256),.int .u8 (eL l % 256)])∧Below w.heap.size w w':=by
 have Hrow:=aB hrow;have Hv:=aB hv;clear hrow hv
 go_enter Tryz.func102,Tryz.ntmps102
 go_wp2_with fail
 go_loopg [3,5,8] (l.length+2) (fun g s3 s5 s8 wr=>∃ (i:Nat),s8=.int .i64 i∧s3=.int .u32 (eL (l.take i))∧l.length-i+1≤g∧i≤l.length∧Hid (wr=w.alloc (.cells #[.int .u8 0,.int .u8 0,.int .u8 0,.int .u8 0] 157)))
 case atStart=>exact⟨0,rfl,by simp[eL],by omega,by omega,rfl⟩
 case round=>
  obtain⟨i,rfl,rfl,hg,hi,hI⟩:=hrel;obtain rfl:=hI.out
  by_cases hlt:i<l.length
  ·have d1:decide ((i:Int)<(l.length:Int))=true:=by simp;omega
   have hii:(i:Int)<(l.length:Int):=by omega
   have hw:IntKind.i64.wrap ((i:Int)+1)=(i:Int)+1:=by rw[IntKind.wrap_i64];omega
   have hc:=Hrow.out i (.int .u8 l[i]) (by simp[aI,hlt])
   have hcb:=aC hc;have hc':=aA ((Below.refl w.heap.size w).alloc (Nat.le_refl _) (.cells #[.int .u8 0,.int .u8 0,.int .u8 0,.int .u8 0] 157)) hc hcb;have hx:=Hv.out l[i] (List.getElem_mem hlt);have HS:Hid (eL (l.take (i+1))=uW (eL (l.take i)) l[i]):=by
    show _=_;unfold eL;rw[List.take_succ_eq_append_getElem hlt,List.foldl_append]
    rfl
   have hsl:=xO (l.take i);generalize eL (l.take i)=s at HS hsl ⊢;generalize l[i]=x at hc hc' hx HS;have w1:IntKind.u32.wrap (33*s)=(33*s) % 4294967296:=by simp[IntKind.wrap,IntKind.bits,IntKind.signed]
   have w2:IntKind.u32.wrap x=x:=by simp[IntKind.wrap,IntKind.bits,IntKind.signed];omega
   have w3:IntKind.u32.wrap ((33*s) % 4294967296+x)=uW s x:=by simp[IntKind.wrap,IntKind.bits,IntKind.signed,uW]
   go_wp2_with fail
   go_roundg (l.length-(i+1)+1)
   case measure=>omega
   case rel=>exact⟨i+1,by go_num,by rw[HS.out],Nat.le_refl _,by omega,rfl⟩
  ·have d1:decide ((i:Int)<(l.length:Int))=false:=by simp;omega
   have hq:l.take i=l:=List.take_of_length_le (by omega)
   rw[hq];have hsl:=xO l;generalize hss:eL l=s at hsl ⊢;have Hss:=aB hss;clear hss
   go_wp2_with fail
   have h24:s / 16777216 % 256=s / 16777216:=by omega
   refine bodyPost_ret (v:=.agg #[.int .u8 (s / 16777216),.int .u8 (s / 65536 % 256),.int .u8 (s / 256 % 256),.int .u8 (s % 256)]) ?_ rfl ?_
   ·rw[kB rfl];simp[go_sem]
   rw[Hss.out,h24];exact⟨rfl,(Below.refl _ _).alloc (Nat.le_refl _) _⟩
theorem uX{P:Program}{w:World}{ops:Array Oper}{o:Oper}{a:Act}{K:Act→World→Prop}{Q:Exit→Act→World→Prop}{E:Prop}(hgd:o.guard=none)(s x:Operand)(t:TypeId)
  (ho:o.op=.call {callee:=.builtin .append,args:=#[s,x],argTypes:=#[t,t]}) (base:Nat) (ht:P.underlying t=some (.slice 5)) (hinfo:(P.info? 5).map (fun i=>(i.zero,i.size,i.bytes))=some (some (.int .u8 0),1,1))
  (lv:Value) (l:List Int) (hs:a.eval s=lv) (h:BRow base w lv l) (b off c:Nat) (y:List Int) (hx:a.eval x=.slice (some ⟨b,off,none⟩) y.length c) (hnews:RowAt w b off (aI y)) (hbytes:l.length+y.length≤140737488355328) (hbase:base≤w.heap.size)
  (hK:∀ v' w',Hid (BRow base w' v' (l++y))→Hid (w.grownBy w' lv.ownBlock)→Hid (v'.ownBlock=lv.ownBlock∨v'.ownBlock=some w.heap.size)→K (a.put o.dst v') w') :
  if Region.wanted o (yielded ops a.tmps)=true then Oper.wp P o a w K Q else E:=by
 have hw:Region.wanted o (yielded ops a.tmps)=true:=by simp[Region.wanted,hgd]
 rw[if_pos hw];obtain⟨i,hi,hz,hsz,hby⟩:=info_parts hinfo;obtain⟨v',w',hr,h2,h3,h4⟩:=kZ (P:=P) base t o.type ht i hi hz hsz hby lv l h ⟨b,off,none⟩ c y (fun j u hu=>by rw[Addr.add_lit];exact hnews j u hu) hbytes hbase
 unfold Oper.wp;simp[execOp,ho,resolve,invoke,builtin,hs,hx,hr,Result.andThen];exact hK v' w' h2 h3 h4
theorem jB(l:List Int):(fE l).length=4:=rfl
theorem jC(l:List Int):∀ b∈fE l,0≤b∧b<256:=by
 have:=xO l;intro b hb;simp only[fE,List.mem_cons,List.not_mem_nil,or_false]at hb;rcases hb with rfl|rfl|rfl|rfl<;>omega
theorem aBp(base wb:Nat)(lv:Value)(l:List Int)(w:World)(h:WrP base w wb lv l)(hb:base≤w.heap.size)(hl:l.length≤1000000)(hv:∀ c∈l,0≤c∧c<256) :
  Calls Tryz.prog 77 #[.pointer (some ⟨wb,0,none⟩)] w fun e w'=>∃ v,e=.returned v∧Only (fun b=>some b=lv.ownBlock) w w'∧BRow base w' v (l++fE l):=by
 have hc:=h.cell;obtain⟨g,cap,rfl,hg1,hg2,hrow⟩:=h.row.row;have H:=aB h;have Hrow:=aB hrow;have hwl:=aC hc;have HS:=aB (aBo w g 0 cap l hrow (by omega) hv)
 clear h hrow hv
 go_enter Tryz.func77,Tryz.ntmps77
 go_wp2_with fail
 refine HS.out.mono ?_;rintro e w1 ⟨rfl,hb1⟩;have hc1:=aA hb1 hc hwl;have hz1:=hb1.size;have HB1:=aB hb1;have H1:=aB (H.out.row.keep (Only.new (S:=fun _=>False) hb1) (by simp))
 have HsB:Hid (fE l=[eL l / 16777216 % 256,eL l / 65536 % 256,eL l / 256 % 256,eL l % 256]):=by show _=_;rfl
 generalize eL l / 16777216 % 256=z0 at HsB ⊢;generalize eL l / 65536 % 256=z1 at HsB ⊢;generalize eL l / 256 % 256=z2 at HsB ⊢;generalize eL l % 256=z3 at HsB ⊢;clear hb1 HS
 go_wp2_with fail
 obtain⟨W2,hW2⟩:∃ W2,W2=w1.alloc (.cells #[.int .u8 z0,.int .u8 z1,.int .u8 z2,.int .u8 z3] 157):=⟨_,rfl⟩;have hb2:Below w1.heap.size w1 W2:=by rw[hW2];exact(Below.refl _ _).alloc (Nat.le_refl _) _
 have hz2:W2.heap.size=w1.heap.size+1:=by rw[hW2];simp
 have HR2:Hid (RowAt W2.drew w1.heap.size 0 (aI [z0,z1,z2,z3])):=by
  intro j v hv;rw[hW2,Nat.zero_add]
  match j,hv with
  | 0,hv=>simp[aI]at hv;subst hv;simp[go_sem]
  | 1,hv=>simp[aI]at hv;subst hv;simp[go_sem]
  | 2,hv=>simp[aI]at hv;subst hv;simp[go_sem]
  | 3,hv=>simp[aI]at hv;subst hv;simp[go_sem]
  | j+4,hv=>simp[aI]at hv
 have c2:=aA hb2 hc1 (by omega)
 have HB2:Hid (Below w.heap.size w W2):=HB1.out.trans (hb2.mono (by omega))
 have H2:Hid (BRow base W2.drew (.slice (some ⟨g,0,none⟩) l.length cap) l):=(H1.out.keep (Only.new (S:=fun _=>False) hb2) (by simp)).keep (Only.new (S:=fun _=>False) (Below.refl _ _).drew) (by simp)
 have hne:¬some wb=(Value.slice (some ⟨g,0,none⟩) l.length cap).ownBlock:=H.out.sep;have Hne:=aB hne;rw[←hW2];clear hW2 hb2 hc hc1 hne
 go_region_held3 (fun W'=>W'.cell? ⟨wb,0,none⟩=some (.slice (some ⟨g,0,none⟩) l.length cap))
  (first|exact c2|exact c3)
  (first|(refine uX rfl (.tmp 12) (.tmp 13) 56 rfl base Tryz.underlying56 Tryz.infoU8 _ l rfl H2.out w1.heap.size 0 4 [z0,z1,z2,z3] rfl HR2.out (by simp;omega) (show base≤W2.heap.size by omega) ?_;intro v4 w4 hown4 hgr4 hwh4;(have ho4:Only (fun b=>some b=(Value.slice (some ⟨g,0,none⟩) l.length cap).ownBlock) W2.drew w4:=aF hgr4.out);(have c3:=ho4.at (w:=W2.drew) c2 Hne.out)))
 have hO:Only (fun b=>some b=(Value.slice (some ⟨g,0,none⟩) l.length cap).ownBlock) w w4:=(Only.new HB2.out).trans ((Only.new (Below.refl _ _).drew).trans ho4);have HO:=aB hO;clear hO ho4 c3 c2
 go_wp2_with fail
 go_ret;exact⟨v4,rfl,HO.out,by rw[HsB.out];exact hown4.out⟩
theorem tC{l:List Int}{i:Nat}(h:i<l.length):gE (l.take (i+1))=(gE (l.take i)&&inB l[i] (-1000000000) 1000000000):=by
 unfold gE;rw[List.take_succ_eq_append_getElem h,List.all_append];simp
theorem qG{l:List Int}{i:Nat}(h:gE (l.take i)=false):gE l=false:=by
 unfold gE at *;rw[List.all_eq_false]at *;obtain⟨x,hx,hp⟩:=h;exact⟨x,List.mem_of_mem_take hx,hp⟩
theorem yT(sa:Option Addr)(cap:Nat)(l:List Int)(w:World)(h:ToldIn w sa l)(hl:l.length≤16) :
  Calls Tryz.prog 124 #[.slice sa l.length cap] w fun e w'=>e=.returned (.bool (gE l))∧Below w.heap.size w w':=by
 have H:=aB h;clear h
 go_enter Tryz.func124,Tryz.ntmps124
 go_wp2_with fail
 go_loopg [7] 20 (fun g s7 wr=>∃ (i:Nat),s7=.int .i64 i∧l.length-i+2≤g∧i≤l.length∧Hid (wr=w∧gE (l.take i)=true))
 case atStart=>exact⟨0,rfl,by omega,by omega,rfl,by simp[gE]⟩
 case round=>
  obtain⟨i,rfl,hg,hi,hI⟩:=hrel;obtain rfl:=hI.out.1
  by_cases hlt:i<l.length
  ·have d1:decide ((i:Int)<(l.length:Int))=true:=by simp;omega
   have hii:(i:Int)<(l.length:Int):=by omega
   have hw:IntKind.i64.wrap ((i:Int)+1)=(i:Int)+1:=by rw[IntKind.wrap_i64];omega
   obtain⟨g',o',rfl,hc⟩:=H.out i l[i] (List.getElem?_eq_getElem hlt);have HV:=aB (tC hlt);generalize l[i]=x at hc HV;rcases hx:inB x (-1000000000) 1000000000 with _|_
   ·go_wp2_with (go_at_call 131;refine(lX _ _).mono ?_;rintro e w' ⟨rfl,rfl⟩)
    go_ret;refine⟨?_,Below.refl _ _⟩;rw[qG (i:=i+1) (by rw[HV.out,hx];simp)]
    rfl
   ·go_wp2_with (go_at_call 131;refine(lX _ _).mono ?_;rintro e w' ⟨rfl,rfl⟩)
    go_roundg (l.length-(i+1)+2)
    case measure=>omega
    case rel=>exact⟨i+1,by go_num,Nat.le_refl _,by omega,rfl,by rw[HV.out,hx,hI.out.2];rfl⟩
  ·have d1:decide ((i:Int)<(l.length:Int))=false:=by simp;omega
   have hq:l.take i=l:=List.take_of_length_le (by omega)
   have hv:=hI.out.2;rw[hq]at hv
   go_wp2_with fail
   go_ret;exact⟨rfl,Below.refl _ _⟩
theorem aCq(r:Rec)(sa:Option Addr)(sc:Nat)(ahead:Int)(w:World)(h:ToldIn w sa r.told) :
  Calls Tryz.prog 109 #[.agg #[.int .i64 r.e.number,.int .i64 r.e.time,.int .i64 r.e.kind,.int .i64 r.e.entity,.slice sa r.told.length sc],.int .i64 ahead] w fun e w'=>e=.returned (.bool (cU ahead r))∧Below w.heap.size w w':=by
 have H:=aB h;have HF:Hid (cU ahead r=(inB r.e.number 0 1000000000&&(inB r.e.time ahead 1000000000000&&(inB r.e.kind 0 7&&(inB r.e.entity 0 7&&(decide (r.told.length≤16)&&gE r.told)))))):=by show _=_;rfl
 have hA:Below w.heap.size w (w.alloc (.cells #[.int .i64 r.e.number,.int .i64 r.e.time,.int .i64 r.e.kind,.int .i64 r.e.entity,.slice sa r.told.length sc] 46)):=(Below.refl _ _).alloc (Nat.le_refl _) _;have HA:=aB hA;clear h hA;rcases b1:inB r.e.number 0 1000000000 with _|_
 case false=>
  have hf:cU ahead r=false:=by rw[HF.out,b1];rfl
  rw[hf]
  go_enter Tryz.func109,Tryz.ntmps109
  go_wp2_with (go_at_call 97;refine(bZ _ _ _ _).mono ?_;rintro e w' ⟨rfl,rfl⟩)
  go_ret;exact⟨rfl,HA.out⟩
 rcases b2:inB r.e.time ahead 1000000000000 with _|_
 case false=>
  have hf:cU ahead r=false:=by rw[HF.out,b1,b2];rfl
  rw[hf]
  go_enter Tryz.func109,Tryz.ntmps109
  go_wp2_with (go_at_call 97;refine(bZ _ _ _ _).mono ?_;rintro e w' ⟨rfl,rfl⟩)
  go_ret;exact⟨rfl,HA.out⟩
 rcases b3:inB r.e.kind 0 7 with _|_
 case false=>
  have hf:cU ahead r=false:=by rw[HF.out,b1,b2,b3];rfl
  rw[hf]
  go_enter Tryz.func109,Tryz.ntmps109
  go_wp2_with (go_at_call 97;refine(bZ _ _ _ _).mono ?_;rintro e w' ⟨rfl,rfl⟩)
  go_ret;exact⟨rfl,HA.out⟩
 rcases b4:inB r.e.entity 0 7 with _|_
 case false=>
  have hf:cU ahead r=false:=by rw[HF.out,b1,b2,b3,b4];rfl
  rw[hf]
  go_enter Tryz.func109,Tryz.ntmps109
  go_wp2_with (go_at_call 97;refine(bZ _ _ _ _).mono ?_;rintro e w' ⟨rfl,rfl⟩)
  go_ret;exact⟨rfl,HA.out⟩
 by_cases h5:r.told.length≤16
 ·have d5:decide ((r.told.length:Int)≤16)=true:=by simp;omega
  have hf:cU ahead r=gE r.told:=by rw[HF.out,b1,b2,b3,b4];simp[h5]
  rw[hf];have HV:=aB (yT sa sc r.told _ (H.out.below HA.out) h5)
  go_enter Tryz.func109,Tryz.ntmps109
  go_wp2_with (first|(go_at_call 97;refine(bZ _ _ _ _).mono ?_;rintro e w' ⟨rfl,rfl⟩)|(go_at_call 124;refine HV.out.mono ?_;rintro e w' ⟨rfl,hb'⟩))
  go_ret;exact⟨rfl,HA.out.trans (hb'.mono HA.out.size)⟩
 ·have d5:decide ((r.told.length:Int)≤16)=false:=by simp;omega
  have hf:cU ahead r=false:=by rw[HF.out,b1,b2,b3,b4];simp[h5]
  rw[hf]
  go_enter Tryz.func109,Tryz.ntmps109
  go_wp2_with (go_at_call 97;refine(bZ _ _ _ _).mono ?_;rintro e w' ⟨rfl,rfl⟩)
  go_ret;exact⟨rfl,HA.out⟩
theorem iF:∀ (rs:List Rec) (ahead:Int) (i:Nat),aS ahead (rs.take i)=false→aS ahead rs=false
 | [],_,_,h=>by simp[aS]at h
 | r::rs,ahead,0,h=>by simp[aS]at h
 | r::rs,ahead,i+1,h=>by
  simp only[List.take_succ_cons,aS,Bool.and_eq_false_iff]at h ⊢;rcases h with h|h
  ·exact .inl h
  ·exact .inr (iF rs _ i h)
def iG:Int→List Rec→Int
 | t,[]=>t
 | _,r::rs=>iG r.e.time rs
theorem mV:∀ (rs:List Rec) (t:Int) (r:Rec),iG t (rs++[r])=r.e.time
 | [],_,_=>rfl
 | x::rs,t,r=>mV rs x.e.time r
theorem lD:∀ (rs:List Rec) (t:Int) (r:Rec),aS t (rs++[r])=(aS t rs&&cU (iG t rs) r)
 | [],t,r=>by simp[aS,iG]
 | x::rs,t,r=>by simp[aS,iG,lD rs x.e.time r,Bool.and_assoc]
theorem qH(a:Option Addr)(cap:Nat)(rs:List Rec)(w:World)(h:RecIn w a rs)(hl:rs.length≤1000000000000000) :
  Calls Tryz.prog 74 #[.slice a rs.length cap] w fun e w'=>e=.returned (.bool (fX rs))∧Below w.heap.size w w':=by
 have H:=aB h;clear h
 by_cases h1000:rs.length≤1000
 rotate_left
 ·have d1:decide (1000<(rs.length:Int))=true:=by simp;omega
  have hf:fX rs=false:=by simp[fX,h1000]
  rw[hf]
  go_enter Tryz.func74,Tryz.ntmps74
  go_wp2_with fail
  go_ret;exact⟨rfl,Below.refl _ _⟩
 have d1:decide (1000<(rs.length:Int))=false:=by simp;omega
 have hf:fX rs=aS 0 rs:=by simp[fX,h1000]
 rw[hf]
 go_enter Tryz.func74,Tryz.ntmps74
 go_wp2_with fail
 go_loopg [3,11] (rs.length+3) (fun g s3 s11 wr=>∃ (i:Nat),s11=.int .i64 i∧s3=.int .i64 (iG 0 (rs.take i))∧rs.length-i+2≤g∧i≤rs.length∧Hid (Below w.heap.size w wr∧aS 0 (rs.take i)=true))
 case atStart=>exact⟨0,rfl,rfl,by omega,by omega,Below.refl _ _,by simp[aS]⟩
 case round=>
  obtain⟨i,rfl,rfl,hg,hi,hI⟩:=hrel
  by_cases hlt:i<rs.length
  ·have d2:decide ((i:Int)<(rs.length:Int))=true:=by simp;omega
   have hii:(i:Int)<(rs.length:Int):=by omega
   have hw:IntKind.i64.wrap ((i:Int)+1)=(i:Int)+1:=by rw[IntKind.wrap_i64];omega
   obtain⟨b,off,sa,sc,rfl,c0,c1,c2,c3,c4,ct⟩:=(H.out.below hI.out.1) i rs[i] (List.getElem?_eq_getElem hlt);have HT:Hid (aS 0 (rs.take (i+1))=cU (iG 0 (rs.take i)) rs[i]):=by
    show _=_;rw[List.take_succ_eq_append_getElem hlt,lD,hI.out.2,Bool.true_and]
   have HL:Hid (iG 0 (rs.take (i+1))=rs[i].e.time):=by
    show _=_;rw[List.take_succ_eq_append_getElem hlt,mV]
   have Hct:=aB ct;generalize rs[i]=r at c0 c1 c2 c3 c4 Hct HT HL;obtain⟨⟨rt,rn,rk,re⟩,told⟩:=r;simp only at c0 c1 c2 c3 c4 Hct HL;generalize iG 0 (rs.take i)=t at HT ⊢;clear ct;obtain⟨W1,hW1⟩:∃ W1,W1=wr.alloc (.cells #[.int .i64 rn,.int .i64 rt,.int .i64 rk,.int .i64 re,.slice sa told.length sc] 46):=⟨_,rfl⟩;have hb1:Below wr.heap.size wr W1:=by rw[hW1];exact(Below.refl _ _).alloc (Nat.le_refl _) _
   have hz1:W1.heap.size=wr.heap.size+1:=by rw[hW1];simp
   have x1:W1.cell? ⟨wr.heap.size,1,none⟩=some (.int .i64 rt):=by rw[hW1];simp[go_sem]
   have HR:=aB (aCq ⟨⟨rt,rn,rk,re⟩,told⟩ sa sc t W1 (Hct.out.below hb1));have hb0:=hI.out.1.trans (hb1.mono hI.out.1.size);have HB0:=aB hb0;clear hb1 hb0
   go_wp2_with fail
   rw[←hW1];refine HR.out.mono ?_;rintro e w2 ⟨rfl,hb2⟩;have y1:=aA hb2 x1 (by omega)
   have HB2:Hid (Below w.heap.size w w2):=HB0.out.trans (hb2.mono HB0.out.size);clear hb2 hW1 x1 c0 c1 c2 c3 c4 HR;generalize hok:cU t ⟨⟨rt,rn,rk,re⟩,told⟩=ok at HT;rcases ok with _|_
   ·go_wp2_with fail
    go_ret;exact⟨by rw[iF rs 0 (i+1) HT.out];rfl,HB2.out⟩
   ·go_wp2_with fail
    go_roundg (rs.length-(i+1)+2)
    case measure=>omega
    case rel=>exact⟨i+1,by go_num,by rw[HL.out],Nat.le_refl _,by omega,HB2.out,HT.out⟩
  ·have d2:decide ((i:Int)<(rs.length:Int))=false:=by simp;omega
   have hq:rs.take i=rs:=List.take_of_length_le (by omega)
   have hv:=hI.out.2;rw[hq]at hv
   go_wp2_with fail
   go_ret;exact⟨by first|rfl|rw[hv];rfl,hI.out.1⟩
theorem aAz(r:Rec)(sa:Option Addr)(sc:Nat)(t:Int)(w:World)(h:ToldIn w sa r.told) :
  Calls Tryz.prog 79 #[.agg #[.int .i64 r.e.number,.int .i64 r.e.time,.int .i64 r.e.kind,.int .i64 r.e.entity,.slice sa r.told.length sc],.int .i64 t] w fun e w'=>e=.returned (.bool (cU t r))∧Below w.heap.size w w':=by
 obtain⟨⟨r1,r2,r3,r4⟩,l⟩:=r;simp only at h ⊢;have HF:Hid (cU t ⟨⟨r1,r2,r3,r4⟩,l⟩=(inB r2 0 1000000000&&(inB r1 t 1000000000000&&(inB r3 0 7&&(inB r4 0 7&&(decide (l.length≤16)&&gE l)))))):=by show _=_;rfl
 obtain⟨W,hW⟩:∃ W,W=w.alloc (.cells #[.int .i64 r2,.int .i64 r1,.int .i64 r3,.int .i64 r4,.slice sa l.length sc] 46):=⟨_,rfl⟩;have hA:Below w.heap.size w W:=by rw[hW];exact(Below.refl _ _).alloc (Nat.le_refl _) _
 have c4:W.cell? ⟨w.heap.size,4,none⟩=some (.slice sa l.length sc):=by rw[hW];simp[go_sem]
 have c0:W.cell? ⟨w.heap.size,0,none⟩=some (.int .i64 r2):=by rw[hW];simp[go_sem]
 have c1:W.cell? ⟨w.heap.size,1,none⟩=some (.int .i64 r1):=by rw[hW];simp[go_sem]
 have c2:W.cell? ⟨w.heap.size,2,none⟩=some (.int .i64 r3):=by rw[hW];simp[go_sem]
 have c3:W.cell? ⟨w.heap.size,3,none⟩=some (.int .i64 r4):=by rw[hW];simp[go_sem]
 have HA:=aB hA;have H:=aB (h.below hA);have HW:=aB hW;clear h hA hW
 by_cases hyes:(inB r2 0 1000000000&&(inB r1 t 1000000000000&&(inB r3 0 7&&(inB r4 0 7&&decide (l.length≤16)))))=true
 ·simp only[Bool.and_eq_true,decide_eq_true_eq]at hyes;obtain⟨b1,b2,b3,b4,h5⟩:=hyes;have hf:cU t ⟨⟨r1,r2,r3,r4⟩,l⟩=gE l:=by rw[HF.out,b1,b2,b3,b4];simp[h5]
  rw[hf];have d5:decide ((16:Int)<(l.length:Int))=false:=by simp;omega
  have d5':decide (16<l.length)=false:=by simp;omega
  go_enter Tryz.func79,Tryz.ntmps79
  go_wp2_with fail
  rw[←HW.out]
  go_wp2_with (go_at_call 57;refine(dF _ _ _ _).mono ?_;rintro e w' ⟨rfl,hw'⟩;rw[hw'];clear hw' w')
  go_loopg [9,10] 20 (fun g s9 s10 wr=>∃ (i:Nat),s9=.int .i64 i∧l.length-i+2≤g∧i≤l.length∧Hid (wr=W∧gE (l.take i)=true))
  case atStart=>exact⟨0,rfl,by omega,by omega,rfl,by simp[gE]⟩
  case round=>
   obtain⟨i,rfl,hg,hi,hI⟩:=hrel;obtain hwr:=hI.out.1;subst hwr
   by_cases hlt:i<l.length
   ·have d1:decide ((i:Int)<(l.length:Int))=true:=by simp;omega
    have hii:(i:Int)<(l.length:Int):=by omega
    have hw:IntKind.i64.wrap ((i:Int)+1)=(i:Int)+1:=by rw[IntKind.wrap_i64];omega
    obtain⟨g',o',rfl,hc⟩:=H.out i l[i] (List.getElem?_eq_getElem hlt);have HV:=aB (tC hlt);generalize l[i]=x at hc HV;rcases hx:inB x (-1000000000) 1000000000 with _|_
    ·go_wp2_with (go_at_call 99;refine(mR _ _).mono ?_;rintro e w' ⟨rfl,rfl⟩)
     go_ret;refine⟨?_,HA.out⟩;rw[qG (i:=i+1) (by rw[HV.out,hx];simp)]
     first|done|rfl
    ·go_wp2_with (go_at_call 99;refine(mR _ _).mono ?_;rintro e w' ⟨rfl,rfl⟩)
     go_roundg (l.length-(i+1)+2)
     case measure=>omega
     case rel=>exact⟨i+1,by go_num,Nat.le_refl _,by omega,rfl,by rw[HV.out,hx,hI.out.2];rfl⟩
   ·have d1:decide ((i:Int)<(l.length:Int))=false:=by simp;omega
    have hq:l.take i=l:=List.take_of_length_le (by omega)
    have hv:=hI.out.2;rw[hq]at hv
    go_wp2_with fail
    go_ret;exact⟨by first|rfl|rw[hv]|simp[hv],HA.out⟩
 ·have hf:cU t ⟨⟨r1,r2,r3,r4⟩,l⟩=false:=by
   rw[HF.out,←Bool.not_eq_true];intro hc;simp only[Bool.and_eq_true]at hc hyes;exact hyes ⟨hc.1,hc.2.1,hc.2.2.1,hc.2.2.2.1,hc.2.2.2.2.1⟩
  rw[hf];have hno:inB r2 0 1000000000=false∨(inB r2 0 1000000000=true∧(inB r1 t 1000000000000=false∨(inB r1 t 1000000000000=true∧(inB r3 0 7=false∨(inB r3 0 7=true∧(inB r4 0 7=false∨(inB r4 0 7=true∧¬l.length≤16))))))):=by
   revert hyes
   rcases inB r2 0 1000000000<;>rcases inB r1 t 1000000000000<;>rcases inB r3 0 7<;>rcases inB r4 0 7<;>simp
  have hd:decide ((16:Int)<(l.length:Int))=decide (¬l.length≤16):=by simp;omega
  clear hyes HF;rcases hno with b1|⟨b1,b2|⟨b2,b3|⟨b3,b4|⟨b4,h5⟩⟩⟩⟩
  all_goals
   try(have d5:decide ((16:Int)<(l.length:Int))=true:=by(simp;omega))
   try(have d6:decide (16<l.length)=true:=by(simp;omega))
   clear hd
   go_enter Tryz.func79,Tryz.ntmps79
   go_wp2_with fail
   rw[←HW.out]
   go_wp2_with (go_at_call 57;refine(dF _ _ _ _).mono ?_;rintro e w' ⟨rfl,hw'⟩;rw[hw'];clear hw' w')
   go_ret;exact⟨rfl,HA.out⟩
theorem xK(a b:Option Addr)(ca cb:Nat)(ra rb:List Rec)(w:World)(h1:RecIn w a ra)(h2:RecIn w b rb)(hl:ra.length≤1000000000000000)(hm:rb.length≤1000000000000000)(ht:∀ r∈ra,r.told.length≤1000000000000000) :
  Calls Tryz.prog 43 #[.slice a ra.length ca,.slice b rb.length cb] w fun e w'=>e=.returned (.int .i64 (iH 0 ra rb))∧Below w.heap.size w w':=by
 have H1:=aB h1;have H2:=aB h2;have Ht:=aB ht;obtain⟨n,hn⟩:∃ n,n=min ra.length rb.length:=⟨_,rfl⟩;have hmin:min (ra.length:Int) (rb.length:Int)=(n:Int):=by omega
 have Hn:=aB hn;have hna:n≤ra.length:=by omega
 have hnb:n≤rb.length:=by omega
 clear h1 h2 ht hn;have key:(ra.length≤rb.length∧n=ra.length)∨(rb.length<ra.length∧n=rb.length):=by have:=Hn.out;omega
 clear hmin;rcases key with⟨hc,hnn⟩|⟨hc,hnn⟩
 all_goals
  have hci:(ra.length:Int)≤(rb.length:Int)∨(rb.length:Int)<(ra.length:Int):=by omega
  first
   | (have hmn:min (ra.length:Int) (rb.length:Int)=(ra.length:Int):=by omega)
   | (have hmn:min (ra.length:Int) (rb.length:Int)=(rb.length:Int):=by omega)
  have Hnn:=aB hnn;have Hc:=aB hc;clear hnn hci hc
  go_enter Tryz.func43,Tryz.ntmps43
  go_wp2_with fail
  clear hmn
  go_loopg [6,7] (n+3) (fun g s6 s7 wr=>∃ (i:Nat),s6=.int .i64 i∧n-i+2≤g∧i≤n∧Hid (Below w.heap.size w wr∧iH i (ra.drop i) (rb.drop i)=iH 0 ra rb))
  case atStart=>exact⟨0,rfl,by omega,by omega,Below.refl _ _,by simp⟩
  case round=>
   obtain⟨i,rfl,hg,hi,hI⟩:=hrel
   by_cases hlt:i<n
   ·have hla:i<ra.length:=by omega
    have hlb:i<rb.length:=by omega
    have d1:decide ((i:Int)<(ra.length:Int))=true:=by simp;omega
    have d2:decide ((i:Int)<(rb.length:Int))=true:=by simp;omega
    have hia:(i:Int)<(ra.length:Int):=by omega
    have hib:(i:Int)<(rb.length:Int):=by omega
    have hw:IntKind.i64.wrap ((i:Int)+1)=(i:Int)+1:=by rw[IntKind.wrap_i64];omega
    obtain⟨g1,o1,sa,sca,rfl,c0,c1,c2,c3,c4,ct⟩:=(H1.out.below hI.out.1) i ra[i] (List.getElem?_eq_getElem hla);obtain⟨g2,o2,sb,scb,rfl,e0,e1,e2,e3,e4,et⟩:=(H2.out.below hI.out.1) i rb[i] (List.getElem?_eq_getElem hlb);have htl:=Ht.out ra[i] (List.getElem_mem hla);have HS:Hid (iH 0 ra rb=if eW ra[i] rb[i]then iH (i+1) (ra.drop (i+1)) (rb.drop (i+1))else (i:Int)):=by show _=_;rw[←hI.out.2];exact vX ra rb i hla hlb
    have HX:=aB (wG ra[i] rb[i] sa sb sca scb wr.drew (ct.below (Below.refl _ _).drew) (et.below (Below.refl _ _).drew) htl);generalize ra[i]=x at c0 c1 c2 c3 c4 HS HX;generalize rb[i]=y at e0 e1 e2 e3 e4 HS HX;obtain⟨⟨xt,xn,xk,xe⟩,xl⟩:=x;obtain⟨⟨yt,yn,yk,ye⟩,yl⟩:=y;simp only at c0 c1 c2 c3 c4 e0 e1 e2 e3 e4 HX;generalize eW ⟨⟨xt,xn,xk,xe⟩,xl⟩ ⟨⟨yt,yn,yk,ye⟩,yl⟩=q at HS HX;clear ct et htl
    go_wp2_with fail
    go_region_held3 (fun W'=>W'.cell? ⟨g1,o1+i*5,none⟩=some (.int .i64 xn)∧W'.cell? ⟨g1,o1+i*5+1,none⟩=some (.int .i64 xt)∧W'.cell? ⟨g1,o1+i*5+2,none⟩=some (.int .i64 xk)∧W'.cell? ⟨g1,o1+i*5+3,none⟩=some (.int .i64 xe)∧W'.cell? ⟨g1,o1+i*5+4,none⟩=some (.slice sa xl.length sca)∧W'.cell? ⟨g2,o2+i*5,none⟩=some (.int .i64 yn)∧W'.cell? ⟨g2,o2+i*5+1,none⟩=some (.int .i64 yt)∧W'.cell? ⟨g2,o2+i*5+2,none⟩=some (.int .i64 yk)∧W'.cell? ⟨g2,o2+i*5+3,none⟩=some (.int .i64 ye)∧W'.cell? ⟨g2,o2+i*5+4,none⟩=some (.slice sb yl.length scb))
     (first|exact⟨c0,c1,c2,c3,c4,e0,e1,e2,e3,e4⟩|exact⟨aA hb2 c0 (aC c0),aA hb2 c1 (aC c1),aA hb2 c2 (aC c2),aA hb2 c3 (aC c3),aA hb2 c4 (aC c4),aA hb2 e0 (aC e0),aA hb2 e1 (aC e1),aA hb2 e2 (aC e2),aA hb2 e3 (aC e3),aA hb2 e4 (aC e4)⟩)
     (first|(go_at_call 72;refine HX.out.mono ?_;rintro e' w2 ⟨rfl,hb2'⟩;(have hb2:Below wr.heap.size wr w2:=(Below.refl _ _).drew.trans hb2')))
    have HB2:Hid (Below w.heap.size w w2):=hI.out.1.trans (hb2.mono hI.out.1.size);clear hb2 hb2' HX c0 c1 c2 c3 c4 e0 e1 e2 e3 e4;rcases q with _|_
    ·have hq:=HS.out;simp only[Bool.false_eq_true,if_false]at hq;have Hq:=aB hq;clear hq
     go_wp2_with fail
     go_ret;exact⟨by rw[Hq.out];rfl,HB2.out⟩
    ·have hq:=HS.out;simp only[if_true]at hq;have Hq:=aB hq;clear hq
     go_wp2_with fail
     go_roundg (n-(i+1)+2)
     case measure=>omega
     case rel=>exact⟨i+1,by go_num,Nat.le_refl _,by omega,HB2.out,Hq.out.symm⟩
   ·have hq:=hI.out.2;rw[yW ra rb i (by have:=Hn.out;omega)]at hq
    have Hq:=aB hq
    first
     | (have d1:¬i<ra.length:=by(have:=Hnn.out;omega))
     | (have d1:¬i<rb.length:=by(have:=Hnn.out;omega))
    have Hin:Hid (i=n):=by(show _=_;omega)
    by_cases hab:ra.length=rb.length
    ·have d3:((ra.length:Int)==(rb.length:Int))=true:=by rw[beq_iff_eq];omega
     have hz:iH 0 ra rb=-1:=by rw[←Hq.out,if_pos hab]
     have Hz:=aB hz;have Hab:=aB hab;clear hq hz hab
     go_wp2_with fail
     first
      | done
      | (go_ret
         exact⟨by rw[Hz.out];rfl,hI.out.1⟩)
    ·have d3:((ra.length:Int)==(rb.length:Int))=false:=by rw[beq_eq_false_iff_ne];omega
     have hz:iH 0 ra rb=(n:Int):=by rw[←Hq.out,if_neg hab,Hin.out]
     have Hz:=aB hz;have Hab:=aB hab;clear hq hz hab
     go_wp2_with fail
     go_ret;exact⟨by rw[Hz.out,Hnn.out];rfl,hI.out.1⟩
end Go.Proofs.YtndlmgocldckfaaGreat
