import Derived.Test.YtndlmgocldckfaaGreatG32
import Derived.Test.YtndlmgocldckfaaGreatG17
import Derived.Test.YtndlmgocldckfaaGreatG12
import Derived.Test.YtndlmgocldckfaaGreatG27
import Derived.Test.YtndlmgocldckfaaGreatG31
import Derived.Test.YtndlmgocldckfaaGreatG28
import Derived.Test.YtndlmgocldckfaaGreatG11
namespace Go.Proofs.YtndlmgocldckfaaGreat
open Go.RowKit
set_option linter.unusedVariables false
set_option linter.unusedSimpArgs false
set_option maxRecDepth 100000
set_option maxHeartbeats 4000000
theorem aF8:∀ (k:Nat) (n:Int),eK k n≠[]
 | 0,n=>by simp[eK]
 | k+1,n=>by rw[eK];split<;>simp
theorem bH{low high n:Int}(h:low≤n∧n≤high)(hn:0≤n∧n≤9223372036854775807)(rest:List Int):aL low high (aJ n++rest) false=(n,rest,false):=by
 unfold aL;rw[aCy n rest hn];have hl:(aJ n).length≠0:=by intro hc;exact aF8 9 n (List.eq_nil_of_length_eq_zero hc)
 rw[if_neg]
 ·simp
 ·rintro (h'|h'|h'|h')
  ·cases h'
  ·exact hl h'
  ·simp only at h';omega
  ·simp only at h';omega
theorem rU{n:Int}(h:-1000000000≤n∧n≤1000000000)(rest:List Int):eE 1000000000 (cJ n++rest) false=(n,rest,false):=by
 have hs:0≤jE n∧jE n≤2000000000:=by unfold jE;split<;>omega
 unfold eE cJ;rw[bH (by omega) (by omega)]
 have:lO (jE n)=n:=by
  unfold lO jE
  by_cases h0:n<0
  ·rw[if_pos h0,if_pos (by omega)];omega
  ·rw[if_neg h0,if_neg (by omega)];omega
 rw[this]
theorem rV(g:Nat→Int)(hg:∀ j,-1000000000≤g j∧g j≤1000000000)(rest:List Int):∀ (n:Nat) (f:Nat→Int) (j:Nat),gU n f j ((List.range' j n).flatMap (fun k=>cJ (g k))++rest) false=(fun k=>if j≤k∧k<j+n then g k else f k,rest,false)
 | 0,f,j=>by
  simp[gU]
  funext k
  rw[if_neg (by omega)]
 | n+1,f,j=>by
  rw[List.range'_succ,List.flatMap_cons,List.append_assoc,gU,rU (hg j)];simp only;rw[rV g hg rest n _ (j+1)];refine Prod.ext ?_ rfl
  funext k
  simp only[cD]
  by_cases hk:k=j
  ·subst hk;rw[if_neg (by omega),if_pos rfl,if_pos (by omega)]
  ·by_cases hr:j+1≤k∧k<j+1+n
   ·rw[if_pos hr,if_pos (by omega)]
   ·rw[if_neg hr,if_neg hk,if_neg (by omega)]
theorem pD:∀ (q:List Ev) (e:Ev),(∀ x∈q,cM x e=true)→dR e q=q++[e]
 | [],e,_=>by simp[dR,jY]
 | x::q,e,h=>by
  rw[mU,if_pos (h x (List.mem_cons_self ..)),pD q e (fun y hy=>h y (List.mem_cons_of_mem _ hy))]
  rfl
structure aF9(ents:Int)(nk:Nat)(next:Int)(e:Ev):Prop where
 time:0≤e.time∧e.time≤1000000000000
 num:1≤e.number∧e.number<next
 kind:0≤e.kind∧e.kind<nk
 ent:0≤e.entity∧e.entity<ents
theorem aDq{ents:Int}{nk:Nat}{next t an:Int}{e:Ev}(h:aF9 ents nk next e)(he:ents≤8)(hk:nk≤8)(hn:next≤1000000000)(ht:0≤t∧t≤e.time)(ha:0≤an)(ho:e.time=t→an<e.number)(rest:List Int) :
  gY ents nk next t an (aJ (e.time-t)++(aJ e.number++(aJ e.kind++(aJ e.entity++rest)))) false=(e,rest,false):=by
 obtain⟨h1,h2,h3,h4⟩:=h;unfold gY;rw[bH (by omega) (by omega)]
 simp only;have hl:iB (e.time-t) an≤e.number:=by unfold iB;split<;>omega
 rw[bH (by omega) (by omega)]
 simp only;rw[bH (by omega) (by omega)]
 simp only;rw[bH (by omega) (by omega)]
 simp only;refine Prod.ext ?_ rfl;simp only;rw[show t+(e.time-t)=e.time by omega]
theorem vA{ents:Int}{nk:Nat}{next:Int}(he:ents≤8)(hk:nk≤8)(hn:next≤1000000000)(rest:List Int):∀ (q q0:List Ev) (t an:Int),cE (q0++q)→Distinct (q0++q)→(∀ e∈q,aF9 ents nk next e)→0≤t→0≤an→(∀ e∈q,t≤e.time∧(e.time=t→an<e.number)) →
  jN ents nk next q.length t an q0 (evB t q++rest) false=(true,q0++q,rest,false)
 | [],q0,t,an,_,_,_,_,_,_=>by simp[jN,evB]
 | e::q,q0,t,an,hs,hd,hok,ht,ha,ho=>by
  have he1:=hok e (List.mem_cons_self ..);have ho1:=ho e (List.mem_cons_self ..);have hev:=aDq (t:=t) (an:=an) he1 he hk hn ⟨ht,ho1.1⟩ ha ho1.2 (evB e.time q++rest);have hsp:=List.pairwise_append.1 hs;have hdp:=List.pairwise_append.1 hd;have hh:kJ e.number q0=false:=by
   rcases hx:kJ e.number q0 with _|_
   ·rfl
   ·obtain⟨x,hx1,hx2⟩:=pL hx;exact absurd hx2 (hdp.2.2 x hx1 e (List.mem_cons_self ..))
  have hins:dR e q0=q0++[e]:=pD q0 e (fun x hx=>hsp.2.2 x hx e (List.mem_cons_self ..));simp only[List.length_cons,jN,evB,List.append_assoc];rw[hev];simp only;rw[hh,if_neg (by simp),hins]
  have:=vA he hk hn rest q (q0++[e]) e.time e.number (by simpa using hs) (by simpa using hd) (fun x hx=>hok x (List.mem_cons_of_mem _ hx)) (by omega) (by have:=he1.num;omega) (fun x hx=>by
   have h2:=(List.pairwise_cons.1 hsp.2.1).1 x hx;simp only[cM,Bool.or_eq_true,decide_eq_true_eq,Bool.and_eq_true]at h2;omega)
  rw[this];simp
theorem wU(ents:Int)(nk:Nat)(s:KS):(dL ents nk s).length=(fL ents nk s).length+8:=by
 simp only[dL,mL,List.length_append,jB,List.length_cons,List.length_nil];omega
theorem iW{hd l:List Int}(h:aU hd l=0):8≤l.length∧l.take 4=hd∧l.drop (l.length-4)=fE (l.take (l.length-4)):=by
 unfold aU at h
 by_cases a1:l.length<8∨l.take 4≠hd
 ·rw[if_pos a1]at h;simp at h
 rw[if_neg a1]at h
 by_cases a2:l.drop (l.length-4)≠fE (l.take (l.length-4))
 ·rw[if_pos a2]at h;simp at h
 simp only[not_or,Nat.not_lt,ne_eq,Decidable.not_not]at a1 a2;exact⟨a1.1,a1.2,a2⟩
theorem aEh(low high:Int)(l:List Int):(aL low high l true).2.2=true:=by simp[aL]
theorem aCx(l:List Int):(eE 1000000000 l true).2.2=true:=by simp[eE,aL]
theorem wA:∀ (n:Nat) (g:Nat→Int) (j:Nat) (l:List Int),(gU n g j l true).2.2=true
 | 0,g,j,l=>rfl
 | n+1,g,j,l=>by
  rw[gU];rw[aCx];exact wA n _ _ _
theorem zA(ents:Int)(nk:Nat)(next t an:Int)(l:List Int):(gY ents nk next t an l true).2.2=true:=by
 simp only[gY,aEh]
theorem pK(ents:Int)(nk:Nat)(next:Int):∀ (n:Nat) (t an:Int) (q:List Ev) (l:List Int),(jN ents nk next n t an q l true).2.2.2=true
 | 0,t,an,q,l=>rfl
 | n+1,t,an,q,l=>by
  rw[jN]
  split
  ·exact zA ents nk next t an l
  ·rw[zA];exact pK ents nk next n _ _ _ _
def gI(E nk dl:Nat)(l:List Int):Bool×KS×List Int×Bool:=
 let a1:=aL E E l false
 let a2:=aL nk nk a1.2.1 a1.2.2
 let a3:=aL 0 1000000000000 a2.2.1 a2.2.2
 let a4:=aL 1 1000000000 a3.2.1 a3.2.2
 let a5:=aL 0 dl a4.2.1 a4.2.2
 let r:=gU (E*4) ks0.regs 0 a5.2.1 a5.2.2
 let q:=eZ E nk a4.1 a3.1 [] r.2.1 r.2.2
 (q.1,⟨a5.1.toNat,a3.1,a4.1,r.1,q.2.1⟩,q.2.2.1,q.2.2.2)
def oP(E nk dl:Nat)(l:List Int):Bool:=(gI E nk dl l).1&&(!(gI E nk dl l).2.2.2&&(gI E nk dl l).2.2.1.isEmpty)
def dO:Nat→List Int→Bool→List Int×List Int×Bool
 | 0,l,f=>([],l,f)
 | n+1,l,f=>((eE 1000000000 l f).1::(dO n (eE 1000000000 l f).2.1 (eE 1000000000 l f).2.2).1,(dO n (eE 1000000000 l f).2.1 (eE 1000000000 l f).2.2).2)
def cV(t:Int)(l:List Int)(flt:Bool):Rec×List Int×Bool:=
 let a:=aL 0 (1000000000000-t) l flt
 let b:=aL 0 1000000000 a.2.1 a.2.2
 let c:=aL 0 7 b.2.1 b.2.2
 let d:=aL 0 7 c.2.1 c.2.2
 let n:=aL 0 16 d.2.1 d.2.2
 let s:=dO n.1.toNat n.2.1 n.2.2
 (⟨⟨t+a.1,b.1,c.1,d.1⟩,s.1⟩,s.2)
theorem tF:∀ (n:Nat) (l:List Int) (f:Bool),(dO n l f).1.length=n
 | 0,l,f=>rfl
 | n+1,l,f=>by simp[dO,tF n]
theorem gM{w:World}{base base':Nat}{e:TypeId}{size:Nat}{v:Value}{n:Nat}{xs:List Value}(h:w.ownsRow base e size v n xs)(hb:base'≤base):w.ownsRow base' e size v n xs:=by
 obtain⟨h1,h2⟩:=h;refine⟨h1,?_⟩;rcases h2 with h2|⟨g,cap,cur,rfl,hg,r⟩
 ·exact .inl h2
 ·exact .inr ⟨g,cap,cur,rfl,by omega,r⟩
structure RdV(w wr:World)(rb g C V:Nat)(l:List Int)(f:Bool)(e:Ev)(sv:Value)(ts:List Int):Prop where
 only:Only (·=rb) w wr
 rd:RdP wr rb g l f
 var:RecVar wr V e sv
 room:Room wr V 5
 croom:Room wr C 5
 row:wr.ownsRow (V+1) 3 1 sv ts.length (ints ts)
 rlt:rb<w.heap.size
 glt:g<w.heap.size
 cge:w.heap.size≤C
 vge:C<V
section
variable {w wr w' : World} {rb g C V : Nat} {l l' : List Int} {f f' : Bool} {e e' : Ev} {sv : Value} {ts : List Int}
theorem RdV.read(h:RdV w wr rb g C V l f e sv ts)(ho:Only (·=rb) wr w')(hr:RdP w' rb g l' f'):RdV w w' rb g C V l' f' e sv ts:=by
 have h1:=h.rlt;have h2:=h.cge;have h3:=h.vge;refine⟨h.only.trans ho,hr,⟨ho.at h.var.c0 (by omega),ho.at h.var.c1 (by omega),ho.at h.var.c2 (by omega),ho.at h.var.c3 (by omega),ho.at h.var.c4 (by omega)⟩,h.room.only ho (by omega),h.croom.only ho (by omega),aN h.row ho ?_,h.rlt,h.glt,h.cge,h.vge⟩
 intro b hb hc;have:=(h.row.lt b hb.symm).1;omega
theorem RdV.set(h:RdV w wr rb g C V l f e sv ts)(j:Nat)(v:Value)(hv:RecVar (wr.setCell ⟨V,j,none⟩ v) V e' sv):RdV w (wr.setCell ⟨V,j,none⟩ v) rb g C V l f e' sv ts:=by
 have h1:=h.rlt;have h2:=h.cge;have h3:=h.vge;have h4:=h.glt;have ho:Only (·=V) wr (wr.setCell ⟨V,j,none⟩ v):=(Only.refl (·=V) wr).setCell (p:=⟨V,j,none⟩) (show V=V from rfl) _
 refine⟨h.only.chain ho (fun i hi hc=>by omega),h.rd.only ho (by omega) (by omega),hv,h.room.setCell _ _,h.croom.setCell _ _,aN h.row ho ?_,h.rlt,h.glt,h.cge,h.vge⟩
 intro b hb hc;have:=(h.row.lt b hb.symm).1;omega
theorem RdV.set0(h:RdV w wr rb g C V l f e sv ts)(n:Int):RdV w (wr.setCell ⟨V,0,none⟩ (.int .i64 n)) rb g C V l f ⟨e.time,n,e.kind,e.entity⟩ sv ts:=
 h.set 0 _ ⟨World.cell?_setCell_same' _ _ _ (h.room 0 (by omega)).1,(World.cell?_setCell_other _ _ _ _ (by simp)).trans h.var.c1,(World.cell?_setCell_other _ _ _ _ (by simp)).trans h.var.c2,(World.cell?_setCell_other _ _ _ _ (by simp)).trans h.var.c3,(World.cell?_setCell_other _ _ _ _ (by simp)).trans h.var.c4⟩
theorem RdV.set2(h:RdV w wr rb g C V l f e sv ts)(n:Int):RdV w (wr.setCell ⟨V,2,none⟩ (.int .i64 n)) rb g C V l f ⟨e.time,e.number,n,e.entity⟩ sv ts:=
 h.set 2 _ ⟨(World.cell?_setCell_other _ _ _ _ (by simp)).trans h.var.c0,(World.cell?_setCell_other _ _ _ _ (by simp)).trans h.var.c1,World.cell?_setCell_same' _ _ _ (h.room 2 (by omega)).1,(World.cell?_setCell_other _ _ _ _ (by simp)).trans h.var.c3,(World.cell?_setCell_other _ _ _ _ (by simp)).trans h.var.c4⟩
theorem RdV.set3(h:RdV w wr rb g C V l f e sv ts)(n:Int):RdV w (wr.setCell ⟨V,3,none⟩ (.int .i64 n)) rb g C V l f ⟨e.time,e.number,e.kind,n⟩ sv ts:=
 h.set 3 _ ⟨(World.cell?_setCell_other _ _ _ _ (by simp)).trans h.var.c0,(World.cell?_setCell_other _ _ _ _ (by simp)).trans h.var.c1,(World.cell?_setCell_other _ _ _ _ (by simp)).trans h.var.c2,World.cell?_setCell_same' _ _ _ (h.room 3 (by omega)).1,(World.cell?_setCell_other _ _ _ _ (by simp)).trans h.var.c4⟩
theorem RdV.tell(h:RdV w wr rb g C V l f e sv ts){o1:Obj}{w2:World}{sv2:Value}{x:Int}(hg:(wr.alloc o1).grownBy w2 sv.ownBlock)(hown:w2.ownsRow (V+1) 3 1 sv2 (ts.length+1) (ints ts++[.int .i64 x])):RdV w (w2.setCell ⟨V,4,none⟩ sv2) rb g C V l f e sv2 (ts++[x]):=by
 have h1:=h.rlt;have h2:=h.cge;have h3:=h.vge;have h4:=h.glt;have hz:=h.only.size;have hbA:Below wr.heap.size wr (wr.alloc o1):=(Below.refl _ _).alloc (Nat.le_refl _) _;have hO:Only (fun b=>some b=sv.ownBlock) wr w2:=(Only.new hbA).trans (aF hg);have hlt:∀ b,some b=sv.ownBlock→V+1≤b:=fun b hb=>(h.row.lt b hb.symm).1;have hro:Room w2 V 5:=h.room.only hO (fun hc=>by have:=hlt _ hc;omega)
 have ho:Only (·=V) w2 (w2.setCell ⟨V,4,none⟩ sv2):=(Only.refl (·=V) w2).setCell (p:=⟨V,4,none⟩) (show V=V from rfl) _
 have hv:RecVar w2 V e sv:=⟨hO.at h.var.c0 (fun hc=>by have:=hlt _ hc;omega),hO.at h.var.c1 (fun hc=>by have:=hlt _ hc;omega),hO.at h.var.c2 (fun hc=>by have:=hlt _ hc;omega),hO.at h.var.c3 (fun hc=>by have:=hlt _ hc;omega),hO.at h.var.c4 (fun hc=>by have:=hlt _ hc;omega)⟩
 refine⟨(h.only.chain hO (fun i hi hc=>by have:=hlt _ hc;omega)).chain ho (fun i hi hc=>by omega),(h.rd.only hO (fun hc=>by have:=hlt _ hc;omega) (fun hc=>by have:=hlt _ hc;omega)).only ho (by omega) (by omega),?_,hro.setCell _ _,(h.croom.only hO (fun hc=>by have:=hlt _ hc;omega)).setCell _ _,aN (by simpa [ints]using hown) ho ?_,h.rlt,h.glt,h.cge,h.vge⟩
 ·exact⟨(World.cell?_setCell_other _ _ _ _ (by simp)).trans hv.c0,(World.cell?_setCell_other _ _ _ _ (by simp)).trans hv.c1,(World.cell?_setCell_other _ _ _ _ (by simp)).trans hv.c2,(World.cell?_setCell_other _ _ _ _ (by simp)).trans hv.c3,World.cell?_setCell_same' _ _ _ (hro 4 (by omega)).1⟩
 ·intro b hb hc;have:=(hown.lt b hb.symm).1;omega
theorem RdV.drew(h:RdV w wr rb g C V l f e sv ts):RdV w wr.drew rb g C V l f e sv ts:=
 h.read (Only.new (Below.refl _ _).drew) (h.rd.only (Only.new (S:=fun _=>False) (Below.refl _ _).drew) (by simp) (by simp))
end
theorem aEf(rb g:Nat)(l:List Int)(flt:Bool)(t:Int)(w:World)(h:RdP w rb g l flt)(ht:0≤t∧t≤1000000000000) :
  Calls Tryz.prog 107 #[.pointer (some ⟨rb,0,none⟩),.int .i64 t] w fun e w'=>∃ sa sc,e=.returned (.agg #[.int .i64 (cV t l flt).1.e.number,.int .i64 (cV t l flt).1.e.time,.int .i64 (cV t l flt).1.e.kind,.int .i64 (cV t l flt).1.e.entity,.slice sa (cV t l flt).1.told.length sc])∧Only (·=rb) w w'∧RdP w' rb g (cV t l flt).2.1 (cV t l flt).2.2∧w'.ownsRow w.heap.size 3 1 (.slice sa (cV t l flt).1.told.length sc) (cV t l flt).1.told.length (ints (cV t l flt).1.told):=by
 have H:=aB h;have hgl:=h.glt;have hrl:=h.lt;have hws:IntKind.i64.wrap (1000000000000-t)=1000000000000-t:=by rw[IntKind.wrap_i64];omega
 have g1:=dU 0 (1000000000000-t) (by omega) l flt
 have HE:Hid (cV t l flt=(let a:=aL 0 (1000000000000-t) l flt;let b:=aL 0 1000000000 a.2.1 a.2.2;let c:=aL 0 7 b.2.1 b.2.2;let d:=aL 0 7 c.2.1 c.2.2;let n:=aL 0 16 d.2.1 d.2.2;let s:=dO n.1.toNat n.2.1 n.2.2;(⟨⟨t+a.1,b.1,c.1,d.1⟩,s.1⟩,s.2))):=by show _=_;rfl
 generalize cV t l flt=out at HE ⊢;generalize hA:aL 0 (1000000000000-t) l flt=A at HE g1;obtain⟨v1,l1,f1⟩:=A;simp only at HE g1;generalize hB:aL 0 1000000000 l1 f1=B at HE;obtain⟨v2,l2,f2⟩:=B;simp only at HE;generalize hC:aL 0 7 l2 f2=CC at HE;obtain⟨v3,l3,f3⟩:=CC;simp only at HE;generalize hD:aL 0 7 l3 f3=D at HE;obtain⟨v4,l4,f4⟩:=D;simp only at HE;have g5:=dU 0 16 (by omega) l4 f4
 generalize hN:aL 0 16 l4 f4=NN at HE g5;obtain⟨v5,l5,f5⟩:=NN;simp only at HE g5;obtain⟨N,rfl⟩:=Int.eq_ofNat_of_zero_le (show 0≤v5 by omega)
 rw[Int.toNat_natCast]at HE;have hN16:N≤16:=by omega
 have htl:=tF N l5 f5;generalize hT:dO N l5 f5=T at HE htl;obtain⟨told,l6,f6⟩:=T;simp only at HE htl;have HA:=aB hA;have HB:=aB hB;have HC:=aB hC;have HD:=aB hD;have HN:=aB hN;have HT:=aB hT;have hwa:IntKind.i64.wrap (t+v1)=t+v1:=by rw[IntKind.wrap_i64];omega
 clear h hA hB hC hD hN hT htl
 go_enter Tryz.func107,Tryz.ntmps107
 go_wp2_with fail
 obtain⟨W0,hW0⟩:∃ W0,W0=w.alloc (.cells #[.int .i64 0,.int .i64 0,.int .i64 0,.int .i64 0,.slice none 0 0] 46):=⟨_,rfl⟩;have hb0:Below w.heap.size w W0:=by rw[hW0];exact(Below.refl _ _).alloc (Nat.le_refl _) _
 have hz0:W0.heap.size=w.heap.size+1:=by rw[hW0];simp
 have hr0:Room W0 w.heap.size 5:=by
  rw[hW0];intro j hj;have:j=0∨j=1∨j=2∨j=3∨j=4:=by omega
  rcases this with rfl|rfl|rfl|rfl|rfl<;>simp[go_sem]
 rw[←hW0];refine(cN rb g l flt 0 (1000000000000-t) W0 (H.out.only (Only.new (S:=fun _=>False) hb0) (by simp) (by simp))).mono ?_
 rintro e w1 ⟨rfl,ho1,hr1⟩;rw[HA.out]at hr1 ⊢;simp only at hr1 ⊢;have hz1:=ho1.size;have Hcr:=aB (hr0.only ho1 (show ¬w.heap.size=rb by omega))
 have HO1:Hid (Only (·=rb) w w1):=(Only.new hb0).trans ho1
 have HR1:=aB hr1;clear hW0 hb0 hr0 ho1 hr1
 go_wp2_with fail
 obtain⟨W1,hW1⟩:∃ W1,W1=w1.alloc (.cells #[.int .i64 0,.int .i64 (t+v1),.int .i64 0,.int .i64 0,.slice none 0 0] 46):=⟨_,rfl⟩;have hb1:Below w1.heap.size w1 W1:=by rw[hW1];exact(Below.refl _ _).alloc (Nat.le_refl _) _
 have HV1:Hid (RdV w W1 rb g w.heap.size w1.heap.size l1 f1 ⟨t+v1,0,0,0⟩ (.slice none 0 0) []):=by
  refine⟨HO1.out.trans (Only.new hb1),HR1.out.only (Only.new (S:=fun _=>False) hb1) (by simp) (by simp),?_,?_,Hcr.out.below hb1 (by omega),?_,hrl,hgl,Nat.le_refl _,by omega⟩
  ·rw[hW1];exact RecVar.new w1 ⟨t+v1,0,0,0⟩ _ _
  ·rw[hW1];intro j hj;have:j=0∨j=1∨j=2∨j=3∨j=4:=by omega
   rcases this with rfl|rfl|rfl|rfl|rfl<;>simp[go_sem]
  ·exact⟨rfl,.inl ⟨rfl,rfl⟩⟩
 rw[←hW1];generalize w1.heap.size=V at HV1 hz1 ⊢;generalize w.heap.size=C at HV1 hz0 hz1 hgl hrl ⊢;clear hW1 hb1;refine(cN rb g l1 f1 _ _ W1 HV1.out.rd).mono ?_;rintro e w2 ⟨rfl,ho2,hr2⟩;rw[HB.out]at hr2 ⊢;simp only at hr2 ⊢;have HV2:=aB (HV1.out.read ho2 hr2);have x0:=HV2.out.var.c0;have z0:=(HV2.out.room 0 (by omega)).2
 clear ho2 hr2
 go_wp2_with fail
 have HV2s:=aB (HV2.out.set0 v2);simp only at HV2s;generalize w2.setCell ⟨V,0,none⟩ (.int .i64 v2)=W2 at HV2s ⊢;clear x0 z0 HV2;refine(cN rb g l2 f2 _ _ W2 HV2s.out.rd).mono ?_;rintro e w3 ⟨rfl,ho3,hr3⟩;rw[HC.out]at hr3 ⊢;simp only at hr3 ⊢;have HV3:=aB (HV2s.out.read ho3 hr3);have x2:=HV3.out.var.c2;have z2:=(HV3.out.room 2 (by omega)).2
 clear ho3 hr3
 go_wp2_with fail
 have HV3s:=aB (HV3.out.set2 v3);simp only at HV3s;generalize w3.setCell ⟨V,2,none⟩ (.int .i64 v3)=W3 at HV3s ⊢;clear x2 z2 HV3;refine(cN rb g l3 f3 _ _ W3 HV3s.out.rd).mono ?_;rintro e w4 ⟨rfl,ho4,hr4⟩;rw[HD.out]at hr4 ⊢;simp only at hr4 ⊢;have HV4:=aB (HV3s.out.read ho4 hr4);have x3:=HV4.out.var.c3;have z3:=(HV4.out.room 3 (by omega)).2
 clear ho4 hr4
 go_wp2_with fail
 have HV4s:=aB (HV4.out.set3 v4);simp only at HV4s;generalize w4.setCell ⟨V,3,none⟩ (.int .i64 v4)=W4 at HV4s ⊢;clear x3 z3 HV4;refine(cN rb g l4 f4 _ _ W4 HV4s.out.rd).mono ?_;rintro e w5 ⟨rfl,ho5,hr5⟩;rw[HN.out]at hr5 ⊢;simp only at hr5 ⊢;have HV5:=aB (HV4s.out.read ho5 hr5);clear ho5 hr5 HV1 HV2s HV3s HV4s
 go_wp2_with fail
 go_loopg [24] 20 (fun gf s24 wx=>∃ (k:Nat) (ts:List Int) (sv:Value) (lk:List Int) (fk:Bool),s24=.int .i64 k∧N-k+2≤gf∧k≤N∧ts.length=k∧Hid (RdV w wx rb g C V lk fk ⟨t+v1,v2,v3,v4⟩ sv ts∧ts++(dO (N-k) lk fk).1=told∧(dO (N-k) lk fk).2=(l6,f6)))
 case atStart=>exact⟨0,[],_,l5,f5,rfl,by omega,by omega,rfl,HV5.out,by simp[HT.out],by simp[HT.out]⟩
 case round=>
  obtain⟨k,ts,sv,lk,fk,rfl,hgf,hk,htk,hK⟩:=hrel;have Htk:=aB htk;have htk16:ts.length≤16:=by omega
  clear htk
  by_cases hlt:k<N
  ·have d1:decide ((k:Int)<(N:Int))=true:=by simp;omega
   have hw:IntKind.i64.wrap ((k:Int)+1)=(k:Int)+1:=by rw[IntKind.wrap_i64];omega
   have hK2:=hK.out.2;rw[show N-k=(N-(k+1))+1 by omega,dO]at hK2
   simp only at hK2;have HK2:=aB hK2;have HV:=aB hK.out.1;have HVd:=aB hK.out.1.drew;have c4:wr.drew.cell? ⟨V,4,none⟩=some sv:=HVd.out.var.c4;have HX:=aB (zB rb g lk fk wr.drew HVd.out.rd);clear hK2 hK
   go_wp2_with fail
   go_region_law (first|(go_simp;go_at_call 105;refine HX.out.mono ?_;rintro e' w6 ⟨rfl,ho6,hr6⟩;(have HV6:=aB (HVd.out.read ho6 hr6));(have c5:=HV6.out.var.c4);(have c6:∀ o,(w6.alloc o).cell? ⟨V,4,none⟩=some sv:=fun o=>aA ((Below.refl w6.heap.size w6).alloc (Nat.le_refl _) o) c5 (aC c5)))|(refine cQ rfl (.tmp 27) (.tmp 30) 24 rfl (V+1) 3 (.int .i64 0) 1 8 Tryz.underlying24 Tryz.info3 rfl (by omega) sv ts.length (ints ts) rfl (HV6.out.row.alloc _) _ 1 [.int .i64 (eE 1000000000 lk fk).1] rfl (.inr (.inl ⟨w6.heap.size,0,_,rfl,xM _ _ _⟩)) rfl (by simp[Value.oneCell']) (by omega) (by omega) (by have:=aC c5;simp;omega) ?_;intro v7 w7 hown7 hgr7 hwh7;(have c7:w7.cell? ⟨V,4,none⟩=some sv:=(aF hgr7.out).at (c6 _) (fun hc=>by have:=(HV6.out.row.lt _ hc.symm).1;omega));(have z7:w7.frozen? ⟨V,4,none⟩=false:=(((HV6.out.room.below ((Below.refl w6.heap.size w6).alloc (Nat.le_refl _) _) (aC c5)).only (aF hgr7.out) (fun hc=>by have:=(HV6.out.row.lt _ hc.symm).1;omega)) 4 (by omega)).2);obtain⟨sa7,sc7,rfl⟩:=dE hown7.out))
   all_goals
    have HT7:=aB (HV6.out.tell hgr7.out hown7.out);generalize w7.setCell ⟨V,4,none⟩ (.slice sa7 (ts.length+1) sc7)=W7 at HT7 ⊢;clear c5 c6 c7 z7 hgr7 hown7 hwh7 ho6 hr6 HX c4
    go_wp2_with fail
    go_roundg (N-(k+1)+2)
    case measure=>omega
    case rel=>exact⟨k+1,ts++[(eE 1000000000 lk fk).1],_,_,_,by go_num,Nat.le_refl _,by omega,by simp[Htk.out],HT7.out,by rw[←HK2.out.1];simp,HK2.out.2⟩
  ·have d1:decide ((k:Int)<(N:Int))=false:=by simp;omega
   obtain rfl:k=N:=by omega
   have hK1:=hK.out.2;rw[Nat.sub_self]at hK1;simp only[dO,List.append_nil,Prod.mk.injEq]at hK1;obtain⟨rfl,rfl,rfl⟩:=hK1;have HV:=aB hK.out.1;have x0:=HV.out.var.c0;have x1:=HV.out.var.c1;have x2:=HV.out.var.c2;have x3:=HV.out.var.c3;have x4:=HV.out.var.c4;simp only at x0 x1 x2 x3;obtain⟨sa,sc,rfl⟩:=dE HV.out.row;obtain⟨s0,g0⟩:=HV.out.croom 0 (by omega)
   obtain⟨s1,g1⟩:=HV.out.croom 1 (by omega)
   obtain⟨s2,g2⟩:=HV.out.croom 2 (by omega)
   obtain⟨s3,g3⟩:=HV.out.croom 3 (by omega)
   obtain⟨s4,g4⟩:=HV.out.croom 4 (by omega)
   obtain⟨t0,i0⟩:=Option.isSome_iff_exists.1 s0;obtain⟨t1,i1⟩:=Option.isSome_iff_exists.1 s1;obtain⟨t2,i2⟩:=Option.isSome_iff_exists.1 s2;obtain⟨t3,i3⟩:=Option.isSome_iff_exists.1 s3;obtain⟨t4,i4⟩:=Option.isSome_iff_exists.1 s4;have hcv:=HV.out.vge;clear s0 s1 s2 s3 s4 hK
   go_wp2_with fail
   obtain⟨WZ,hWZ⟩:∃ WZ,WZ=(set4 wr C 0 ⟨v2,t+v1,v3,v4⟩).setCell ⟨C,4,none⟩ (.slice sa ts.length sc):=⟨_,rfl⟩;obtain⟨t0',t1',t2',t3'⟩:=mQ wr C 0 4 ⟨v2,t+v1,v3,v4⟩ (fun j hj=>HV.out.croom j (by omega)) (by omega)
   have q0:WZ.cell? ⟨C,0,none⟩=some (.int .i64 v2):=by rw[hWZ,World.cell?_setCell_other _ _ _ _ (by simp)];exact t0'
   have q1:WZ.cell? ⟨C,1,none⟩=some (.int .i64 (t+v1)):=by rw[hWZ,World.cell?_setCell_other _ _ _ _ (by simp)];exact t1'
   have q2:WZ.cell? ⟨C,2,none⟩=some (.int .i64 v3):=by rw[hWZ,World.cell?_setCell_other _ _ _ _ (by simp)];exact t2'
   have q3:WZ.cell? ⟨C,3,none⟩=some (.int .i64 v4):=by rw[hWZ,World.cell?_setCell_other _ _ _ _ (by simp)];exact t3'
   have q4:WZ.cell? ⟨C,4,none⟩=some (.slice sa ts.length sc):=by rw[hWZ];exact World.cell?_setCell_same' _ _ _ ((HV.out.croom.set4 C 0 ⟨v2,t+v1,v3,v4⟩) 4 (by omega)).1
   have hoZ:Only (·=C) wr WZ:=by rw[hWZ];exact((Only.refl (·=C) wr).set4 (b:=C) (show C=C from rfl) 0 _).setCell (p:=⟨C,4,none⟩) (show C=C from rfl) _
   have hWZ':=hWZ;simp only[set4,Nat.zero_add]at hWZ';rw[←hWZ'];clear hWZ hWZ';refine bodyPost_ret (v:=.agg #[.int .i64 v2,.int .i64 (t+v1),.int .i64 v3,.int .i64 v4,.slice sa ts.length sc]) ?_ rfl ?_
   ·rw[kB rfl];simp[go_sem,q0,q1,q2,q3,q4]
   rw[HE.out];have hcg:=HV.out.cge;refine⟨sa,sc,rfl,HV.out.only.chain hoZ (fun i hi hc=>by omega),HV.out.rd.only hoZ (by omega) (by omega),gM (aN HV.out.row hoZ ?_) (by omega)⟩
   intro b hb hc;have:=(HV.out.row.lt b hb.symm).1;omega
end Go.Proofs.YtndlmgocldckfaaGreat
