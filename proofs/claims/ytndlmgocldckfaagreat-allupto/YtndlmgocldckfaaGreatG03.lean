import Derived.Test.YtndlmgocldckfaaGreatG02
import Derived.BigRegion
import Derived.BigQuiet
import Derived.Deep.QuietTactic
import Derived.Deep.LoopGhost
import Derived.RegionTactic
import Derived.Deep.RegionHeld3
import Derived.Test.YtndlmgocldckfaaGreatG01
import Derived.Laws.StructEq
namespace Go.Proofs.YtndlmgocldckfaaGreat
open Go.RowKit
set_option linter.unusedVariables false
set_option linter.unusedSimpArgs false
set_option maxRecDepth 100000
set_option maxHeartbeats 4000000
def eK:Nat→Int→List Int
 | 0,n=>[n]
 | k+1,n=>if 127<n then (n % 128+128)::eK k (n / 128)else [n]
def aJ(n:Int):List Int:=eK 9 n
def jE(n:Int):Int:=if n<0 then -2*n-1 else 2*n
def cJ(n:Int):List Int:=aJ (jE n)
structure WrP(base:Nat)(w:World)(wb:Nat)(lv:Value)(l:List Int):Prop where
 cell:w.cell? ⟨wb,0,none⟩=some lv
 room:Room w wb 1
 row:BRow base w lv l
 sep:¬some wb=lv.ownBlock
def WSet(wb:Nat)(lv:Value)(b:Nat):Prop:=b=wb∨some b=lv.ownBlock
def aF5(w:World)(lv lv':Value):Prop:=lv'.ownBlock=lv.ownBlock∨∃ g,lv'.ownBlock=some g∧w.heap.size≤g
theorem dE{w:World}{base:Nat}{e:TypeId}{size:Nat}{v:Value}{n:Nat}{xs:List Value}(h:w.ownsRow base e size v n xs):∃ sa sc,v=.slice sa n sc:=by
 rcases bK h with⟨rfl,rfl,_⟩|⟨g,cap,rfl,_⟩
 ·exact⟨_,_,rfl⟩
 ·exact⟨_,_,rfl⟩
theorem aF{w w':World}{row:Option Nat}(h:w.grownBy w' row):Only (fun b=>some b=row) w w':=⟨h.os,h.tape,h.output,h.size,fun k hk hn=>h.block k hk hn⟩
theorem Only.chain{S T:Nat→Prop}{a b c:World}(h:Only S a b)(k:Only T b c)(ht:∀ i,i<a.heap.size→T i→S i):Only S a c:=
 ⟨k.os.trans h.os,k.tape.trans h.tape,k.output.trans h.output,Nat.le_trans h.size k.size,fun i hi hs=>(k.block i (Nat.lt_of_lt_of_le hi h.size) (fun x=>hs (ht i hi x))).trans (h.block i hi hs)⟩
theorem aN{w w':World}{base:Nat}{e:TypeId}{size:Nat}{v:Value}{n:Nat}{xs:List Value}{U:Nat→Prop}(h:w.ownsRow base e size v n xs)(ho:Only U w w')(hU:∀ b,some b=v.ownBlock→¬U b):w'.ownsRow base e size v n xs:=by
 obtain⟨h1,h2⟩:=h;refine⟨h1,?_⟩;rcases h2 with h2|⟨g,cap,cur,rfl,hg,hc,r⟩
 ·exact .inl h2
 ·have hl:=(Array.getElem?_eq_some_iff.1 hc).1;exact .inr ⟨g,cap,cur,rfl,hg,(ho.block g hl (hU g rfl)).trans hc,r⟩
theorem uD:∀ (k:Nat) (n:Int),0≤n→n<128 ^ (k+1)→∀ b∈eK k n,0≤b∧b<256
 | 0,n,h0,h1,b,hb=>by simp[eK]at hb;subst hb;simp at h1;omega
 | k+1,n,h0,h1,b,hb=>by
  rw[eK]at hb
  split at hb
  ·rcases List.mem_cons.1 hb with rfl|hb
   ·omega
   ·refine uD k (n / 128) (by omega) ?_ b hb
    rw[Int.pow_succ]at h1;omega
  ·simp at hb;subst hb;omega
theorem zW:∀ (k:Nat) (n:Int),(eK k n).length≤k+1
 | 0,n=>by simp[eK]
 | k+1,n=>by
  rw[eK]
  split
  ·have:=zW k (n / 128);simp;omega
  ·simp
structure NumR(base:Nat)(w wr:World)(wb:Nat)(lv0 lv:Value)(l:List Int):Prop where
 only:Only (WSet wb lv0) w wr
 moved:aF5 w lv0 lv
 wr:WrP base wr wb lv l
theorem NumR.step{base:Nat}{w wr w2:World}{wb:Nat}{lv0 lv lv2:Value}{l:List Int}{x:Int}{o1:Obj}(h:NumR base w wr wb lv0 lv l)(hb:base≤w.heap.size)(hg:(wr.alloc o1).grownBy w2 lv.ownBlock)(hown:BRow base w2 lv2 (l++[x]))
  (hwh:lv2.ownBlock=lv.ownBlock∨lv2.ownBlock=some (wr.heap.size+1)):NumR base w (w2.setCell ⟨wb,0,none⟩ lv2) wb lv0 lv2 (l++[x]):=by
 have hz:=h.only.size;have hwl:=aC h.wr.cell;have hbA:Below wr.heap.size wr (wr.alloc o1):=(Below.refl _ _).alloc (Nat.le_refl _) _;have hO:Only (fun b=>some b=lv.ownBlock) wr w2:=(Only.new hbA).trans (aF hg);have hOs:Only (·=wb) w2 (w2.setCell ⟨wb,0,none⟩ lv2):=Only.setCell (S:=(·=wb)) (Only.refl _ _) (p:=⟨wb,0,none⟩) rfl _
 have hr2:Room w2 wb 1:=h.wr.room.only hO h.wr.sep;have hsep2:¬some wb=lv2.ownBlock:=by
  rcases hwh with e|e
  ·rw[e];exact h.wr.sep
  ·rw[e];intro hc;simp at hc;omega
 have hmv:aF5 w lv0 lv2:=by
  rcases hwh with e|e
  ·rcases h.moved with e'|⟨g,e',hg'⟩
   ·exact .inl (e.trans e')
   ·exact .inr ⟨g,e.trans e',hg'⟩
  ·exact .inr ⟨_,e,by omega⟩
 refine⟨?_,hmv,⟨World.cell?_setCell_same' _ _ _ (hr2 0 (by omega)).1,hr2.setCell _ _,?_,hsep2⟩⟩
 ·refine(h.only.chain hO ?_).chain hOs (fun k _ hk=>.inl hk);intro k hk hc;rcases h.moved with e'|⟨g,e',hg'⟩
  ·exact .inr (hc.trans e')
  ·rw[e']at hc;simp at hc;omega
 ·exact hown.keep hOs (fun b hb hc=>hsep2 (by rw[←hc];exact hb))
theorem mP(n:Int)(h0:0≤n)(h1:n<256):IntKind.u8.wrap n=n:=by
 simp[IntKind.wrap,IntKind.bits,IntKind.signed];omega
theorem xM(w:World)(v:Value)(T:TypeId):RowAt (w.alloc (.cells #[v] T)) w.heap.size 0 [v]:=by
 intro j u hu;have hj:j<1:=by have:=(List.getElem?_eq_some_iff.1 hu).1;simpa using this
 obtain rfl:j=0:=by omega
 simp at hu;subst hu;rw[World.cell?_alloc_at _ _ _ _ rfl];rfl
theorem oA(base wb:Nat)(lv:Value)(l:List Int)(n:Int)(w:World)(h:WrP base w wb lv l)(hb:base≤w.heap.size)(hl:l.length≤1000000)(hn:0≤n∧n≤9223372036854775807) :
  Calls Tryz.prog 110 #[.pointer (some ⟨wb,0,none⟩),.int .i64 n] w fun e w'=>e=.returned (.tuple #[])∧∃ lv',NumR base w w' wb lv lv' (l++aJ n):=by
 have H:=aB h;clear h
 go_enter Tryz.func110,Tryz.ntmps110
 go_wp2_with fail
 go_loopg [1] 11 (fun g s1 wr=>∃ (f:Nat) (m:Int) (lv2:Value) (ld:List Int),s1=.int .i64 m∧f+1≤g∧f≤9∧0≤m∧m≤9223372036854775807∧ld.length+f=l.length+9∧Hid (m<128 ^ (f+1)∧NumR base w wr wb lv lv2 ld∧ld++eK f m=l++aJ n))
 case atStart=>exact⟨9,n,lv,l,rfl,by omega,by omega,hn.1,hn.2,by omega,by simp;omega,⟨Only.refl _ _,.inl rfl,H.out⟩,rfl⟩
 case round=>
  obtain⟨f,m,lv2,ld,rfl,hg,hf,hm0,hm1,hdl,hI⟩:=hrel;have hc:=hI.out.2.1.wr.cell;have hfz:=(hI.out.2.1.wr.room 0 (by omega)).2
  have hzr:=hI.out.2.1.only.size;have hrow:=aB hI.out.2.1.wr.row;have hsep:=aB hI.out.2.1.wr.sep
  by_cases h127:127<m
  ·obtain⟨f',rfl⟩:∃ f',f=f'+1:=by
    rcases f with _|f'
    ·have:=hI.out.1;simp at this;omega
    ·exact⟨f',rfl⟩
   have d1:decide (127<m)=true:=by simpa using h127
   have hr:m.tmod 128=m % 128:=Int.tmod_eq_emod_of_nonneg (by omega)
   have hq:m.tdiv 128=m / 128:=Int.tdiv_eq_ediv_of_nonneg (by omega)
   have w1:IntKind.i64.wrap (m % 128)=m % 128:=by rw[IntKind.wrap_i64];omega
   have w2:IntKind.i64.wrap (m % 128+128)=m % 128+128:=by rw[IntKind.wrap_i64];omega
   have w3:IntKind.u8.wrap (m % 128+128)=m % 128+128:=mP _ (by omega) (by omega)
   have w4:IntKind.i64.wrap (m / 128)=m / 128:=by rw[IntKind.wrap_i64];omega
   go_wp2_with (at_builtin;refine lM rfl (.tmp 10) (.tmp 15) 56 rfl base Tryz.underlying56 Tryz.infoU8 _ ld rfl (hrow.out.keep (Only.new (S:=fun _=>False) ((Below.refl _ _).alloc (Nat.le_refl _) _)) (by simp)) _ 0 _ [m % 128+128] rfl ?_ (by simp;omega) (by simp;omega) ?_)
   ·exact xM _ _ _
   intro v5 w5 hown5 hgr5 hwh5;have hS:=aB (hI.out.2.1.step hb hgr5.out hown5.out hwh5.out);have hbA:Below wr.heap.size wr (wr.alloc (.cells #[.int .u8 (m % 128+128)] 5)):=(Below.refl _ _).alloc (Nat.le_refl _) _;have hO:Only (fun b=>some b=lv2.ownBlock) wr w5:=(Only.new hbA).trans (aF hgr5.out);have hc5:=hO.at hc hsep.out;have hf5:=((hI.out.2.1.wr.room.only hO hsep.out) 0 (by omega)).2
   obtain⟨sa5,sc5,rfl⟩:=hown5.out.form;have hS2:=hS.out;simp only[List.length_append,List.length_cons,List.length_nil,Nat.zero_add]at hS2;have HS2:=aB hS2;clear hS2 hS;clear hbA hO hc hfz
   go_wp2_with fail
   go_roundg (f'+1)
   case measure=>omega
   case rel=>
    refine⟨f',m / 128,_,ld++[m % 128+128],rfl,by omega,by omega,by omega,by omega,by simp;omega,?_,HS2.out,?_⟩
    ·have:=hI.out.1;rw[Int.pow_succ]at this;omega
    ·have:=hI.out.2.2;rw[eK,if_pos h127]at this;rw[←this];simp
  ·have d1:decide (127<m)=false:=by simpa using h127
   have w3:IntKind.u8.wrap m=m:=mP _ (by omega) (by omega)
   go_wp2_with (at_builtin;refine lM rfl (.tmp 25) (.tmp 28) 56 rfl base Tryz.underlying56 Tryz.infoU8 _ ld rfl (hrow.out.keep (Only.new (S:=fun _=>False) ((Below.refl _ _).alloc (Nat.le_refl _) _)) (by simp)) _ 0 _ [m] rfl ?_ (by simp;omega) (by simp;omega) ?_)
   ·exact xM _ _ _
   intro v5 w5 hown5 hgr5 hwh5;have hS:=aB (hI.out.2.1.step hb hgr5.out hown5.out hwh5.out);have hbA:Below wr.heap.size wr (wr.alloc (.cells #[.int .u8 m] 5)):=(Below.refl _ _).alloc (Nat.le_refl _) _;have hO:Only (fun b=>some b=lv2.ownBlock) wr w5:=(Only.new hbA).trans (aF hgr5.out);have hc5:=hO.at hc hsep.out;have hf5:=((hI.out.2.1.wr.room.only hO hsep.out) 0 (by omega)).2
   obtain⟨sa5,sc5,rfl⟩:=hown5.out.form;have hS2:=hS.out;simp only[List.length_append,List.length_cons,List.length_nil,Nat.zero_add]at hS2;have HS2:=aB hS2;clear hS2 hS;clear hbA hO hc hfz
   go_wp2_with fail
   go_end0
   have hfin:ld++[m]=l++aJ n:=by
    have:=hI.out.2.2;rcases f with _|f'
    ·exact this
    ·rw[eK,if_neg (by omega)]at this;exact this
   exact⟨rfl,_,by rw[←hfin];exact HS2.out⟩
theorem NumR.trans{base:Nat}{w w1 w2:World}{wb:Nat}{lv lv1 lv2:Value}{l l2:List Int}(h:NumR base w w1 wb lv lv1 l)(k:NumR base w1 w2 wb lv1 lv2 l2):NumR base w w2 wb lv lv2 l2:=by
 have hz:=h.only.size;refine⟨h.only.chain k.only ?_,?_,k.wr⟩
 ·rintro i hi (hc|hc)
  ·exact .inl hc
  ·rcases h.moved with e|⟨g,e,hg⟩
   ·exact .inr (hc.trans e)
   ·rw[e]at hc;simp at hc;omega
 ·rcases k.moved with e|⟨g,e,hg⟩
  ·rcases h.moved with e'|⟨g',e',hg'⟩
   ·exact .inl (e.trans e')
   ·exact .inr ⟨g',e.trans e',hg'⟩
  ·exact .inr ⟨g,e,by omega⟩
theorem aG(n:Int):(aJ n).length≤10:=zW 9 n
theorem aB2(base wb:Nat)(lv:Value)(l:List Int)(n:Int)(w:World)(h:WrP base w wb lv l)(hb:base≤w.heap.size)(hl:l.length≤1000000)(hn:-1000000000≤n∧n≤1000000000) :
  Calls Tryz.prog 111 #[.pointer (some ⟨wb,0,none⟩),.int .i64 n] w fun e w'=>e=.returned (.tuple #[])∧∃ lv',NumR base w w' wb lv lv' (l++cJ n):=by
 have H:=aB h;clear h
 by_cases h0:n<0
 ·have d1:decide (n<0)=true:=by simpa using h0
  have w1:IntKind.i64.wrap (-2*n)=-2*n:=by rw[IntKind.wrap_i64];omega
  have w2:IntKind.i64.wrap (-2*n-1)=-2*n-1:=by rw[IntKind.wrap_i64];omega
  have hs:cJ n=aJ (-2*n-1):=by simp[cJ,jE,h0]
  go_enter Tryz.func111,Tryz.ntmps111
  go_wp2_with fail
  refine(oA base wb lv l _ w H.out hb hl (by omega)).mono ?_
  rintro e w1 ⟨rfl,lv',hN⟩
  go_wp2_with fail
  go_end0
  exact⟨rfl,lv',hs▸hN⟩
 ·have d1:decide (n<0)=false:=by simpa using h0
  have w1:IntKind.i64.wrap (2*n)=2*n:=by rw[IntKind.wrap_i64];omega
  have hs:cJ n=aJ (2*n):=by simp[cJ,jE,h0]
  go_enter Tryz.func111,Tryz.ntmps111
  go_wp2_with fail
  refine(oA base wb lv l _ w H.out hb hl (by omega)).mono ?_
  rintro e w1 ⟨rfl,lv',hN⟩
  go_wp2_with fail
  go_end0
  exact⟨rfl,lv',hs▸hN⟩
def gF(av:Value)(L:List RecC)(b:Nat):Prop:=some b=av.ownBlock∨∃ x∈L,some b=(Value.slice x.sa x.n x.sc).ownBlock
structure AllR(w:World)(Z:Nat)(av:Value)(L:List RecC)(rs:List Rec):Prop where
 len:L.length=rs.length
 row:w.ownsRow Z 46 5 av L.length (bA L)
 rec_:∀ (j:Nat) x r,L[j]?=some x→rs[j]?=some r→x.e=r.e∧x.n=r.told.length∧w.ownsRow Z 3 1 (.slice x.sa x.n x.sc) r.told.length (ints r.told)
 tsep:∀ x∈L,∀ b,some b=(Value.slice x.sa x.n x.sc).ownBlock→some b≠av.ownBlock
theorem AllR.lt{w:World}{Z:Nat}{av:Value}{L:List RecC}{rs:List Rec}(h:AllR w Z av L rs):∀ b,gF av L b→Z≤b∧b<w.heap.size:=by
 rintro b (hb|⟨x,hx,hb⟩)
 ·exact h.row.lt b hb.symm
 ·obtain⟨j,hj⟩:=List.getElem?_of_mem hx;have hl:j<rs.length:=by have:=(List.getElem?_eq_some_iff.1 hj).1;have:=h.len;omega
  obtain⟨_,_,h3⟩:=h.rec_ j x rs[j] hj (List.getElem?_eq_getElem hl);exact h3.lt b hb.symm
theorem AllR.only{w w':World}{Z:Nat}{av:Value}{L:List RecC}{rs:List Rec}{U:Nat→Prop}(h:AllR w Z av L rs)(ho:Only U w w')(hU:∀ b,gF av L b→¬U b):AllR w' Z av L rs:=by
 refine⟨h.len,aN h.row ho (fun b hb=>hU b (.inl hb)),fun j x r hx hr=>?_,h.tsep⟩;obtain⟨h1,h2,h3⟩:=h.rec_ j x r hx hr;exact⟨h1,h2,aN h3 ho (fun b hb=>hU b (.inr ⟨x,List.mem_of_getElem? hx,hb⟩))⟩
theorem AllR.nil(w:World)(Z:Nat):AllR w Z (.slice none 0 0) [] []:=
 ⟨rfl,World.ownsRow_nil _ _ _ _,by simp,by simp⟩
theorem xH(L:List RecC):∀ u∈bA L,u.oneCell'=true:=by
 intro u hu;obtain⟨x,_,hx⟩:=List.mem_flatMap.1 hu;simp only[RecC.cells,List.mem_cons,List.not_mem_nil,or_false]at hx;rcases hx with rfl|rfl|rfl|rfl|rfl<;>rfl
theorem qV(A B:List RecC):bA (A++B)=bA A++bA B:=by simp[bA]
theorem AllR.recIn{w:World}{Z:Nat}{av:Value}{L:List RecC}{rs:List Rec}(h:AllR w Z av L rs):∃ a cap,av=.slice a rs.length cap∧RecIn w a rs:=by
 have hl:=h.len;rcases bK h.row with⟨rfl,h0,_⟩|⟨g,cap,rfl,h1,h2,h3⟩
 ·have hr:rs=[]:=List.eq_nil_of_length_eq_zero (by omega)
  subst hr;exact⟨none,0,rfl,by intro i r hr;simp at hr⟩
 ·refine⟨some ⟨g,0,none⟩,cap,by rw[hl],?_⟩
  intro i r hr;have hi:i<L.length:=by have:=(List.getElem?_eq_some_iff.1 hr).1;omega
  have hx:L[i]?=some L[i]:=List.getElem?_eq_getElem hi;obtain⟨e1,e2,e3⟩:=h.rec_ i _ r hx hr;have hc:∀ (j:Nat) v,j<5→(L[i].cells)[j]?=some v→w.cell? ⟨g,0+i*5+j,none⟩=some v:=by
   intro j v hj hv;have:=h3 (i*5+j) v (by rw[lC L i j hj,hx];exact hv)
   rw[Nat.add_assoc];exact this
  refine⟨g,0,L[i].sa,L[i].sc,rfl,?_,?_,?_,?_,?_,?_⟩
  ·have:=hc 0 _ (by omega) rfl;rw[←e1];exact this
  ·have:=hc 1 _ (by omega) rfl;rw[←e1];exact this
  ·have:=hc 2 _ (by omega) rfl;rw[←e1];exact this
  ·have:=hc 3 _ (by omega) rfl;rw[←e1];exact this
  ·have:=hc 4 _ (by omega) rfl;rw[←e2];exact this
  ·intro k t ht;rcases bK e3 with⟨_,h0,_⟩|⟨g',cap',q1,_,_,q3⟩
   ·have:=(List.getElem?_eq_some_iff.1 ht).1;omega
   ·simp only[Value.slice.injEq]at q1;exact⟨g',0,q1.1,q3 k (.int .i64 t) (by simp[ints,ht])⟩
def ApartR(L:List RecC):Prop:=∀ (j k:Nat) x y b,L[j]?=some x→L[k]?=some y→some b=(Value.slice x.sa x.n x.sc).ownBlock→some b=(Value.slice y.sa y.n y.sc).ownBlock→j=k
theorem AllR.snoc{w w':World}{Z:Nat}{av av':Value}{A:List RecC}{ra:List Rec}{x:RecC}{r:Rec}(h:AllR w Z av A ra)(he:x.e=r.e)(hn:x.n=r.told.length)(hx:w.ownsRow Z 3 1 (.slice x.sa x.n x.sc) r.told.length (ints r.told))(hg:w.grownBy w' av.ownBlock)(hown:w'.ownsRow Z 46 5 av' (A.length+1) (bA A++x.cells))(hwh:av'.ownBlock=av.ownBlock∨av'.ownBlock=some w.heap.size)(hdis:∀ b,some b=(Value.slice x.sa x.n x.sc).ownBlock→some b≠av.ownBlock):AllR w' Z av' (A++[x]) (ra++[r]):=by
 have ho:Only (fun b=>some b=av.ownBlock) w w':=aF hg;have hla:=h.len;refine⟨by simp;omega,by rw[qV,List.length_append];simpa [bA]using hown,fun j y q hy hq=>?_,?_⟩
 ·by_cases hj:j<A.length
  ·rw[List.getElem?_append_left hj]at hy;rw[List.getElem?_append_left (by omega)]at hq
   obtain⟨h1,h2,h3⟩:=h.rec_ j y q hy hq;exact⟨h1,h2,aN h3 ho (fun b hb hc=>h.tsep y (List.mem_of_getElem? hy) b hb hc)⟩
  ·rw[List.getElem?_append_right (by omega)]at hy
   rw[List.getElem?_append_right (by omega)]at hq
   rw[←hla]at hq;rcases hj0:j-A.length with _|m
   ·rw[hj0]at hy hq;simp at hy hq;subst hy hq;exact⟨he,hn,aN hx ho (fun b hb hc=>hdis b hb hc)⟩
   ·rw[hj0]at hy;simp at hy
 ·intro y hy b hb;rcases hwh with e|e
  ·rw[e];rcases List.mem_append.1 hy with hy|hy
   ·exact h.tsep y hy b hb
   ·simp at hy;subst hy;exact hdis b hb
  ·rw[e];intro hc;simp at hc;rcases List.mem_append.1 hy with hy|hy
   ·have:=(h.lt b (.inr ⟨y,hy,hb⟩)).2;omega
   ·simp at hy;subst hy;have:=(hx.lt b hb.symm).2;omega
theorem ApartR.snoc{w:World}{Z:Nat}{av:Value}{A:List RecC}{ra:List Rec}{x:RecC}(h:ApartR A)(hA:AllR w Z av A ra)(hx:∀ b,some b=(Value.slice x.sa x.n x.sc).ownBlock→w.heap.size≤b):ApartR (A++[x]):=by
 intro j k y z b hy hz hby hbz;have hlt:∀ (j:Nat) y,A[j]?=some y→some b=(Value.slice y.sa y.n y.sc).ownBlock→b<w.heap.size:=fun j y hy hb=>(hA.lt b (.inr ⟨y,List.mem_of_getElem? hy,hb⟩)).2;have hlast:∀ (j:Nat) y,¬j<A.length→(A++[x])[j]?=some y→j=A.length∧y=x:=by
  intro j y hj hy;rw[List.getElem?_append_right (by omega)]at hy
  rcases hj0:j-A.length with _|m
  ·rw[hj0]at hy;simp at hy;exact⟨by omega,hy.symm⟩
  ·rw[hj0]at hy;simp at hy
 by_cases hj:j<A.length
 ·rw[List.getElem?_append_left hj]at hy
  by_cases hk:k<A.length
  ·rw[List.getElem?_append_left hk]at hz;exact h j k y z b hy hz hby hbz
  ·obtain⟨_,rfl⟩:=hlast k z hk hz;have:=hlt j y hy hby;have:=hx b hbz;omega
 ·obtain⟨e1,rfl⟩:=hlast j y hj hy
  by_cases hk:k<A.length
  ·rw[List.getElem?_append_left hk]at hz;have:=hlt k z hz hbz;have:=hx b hby;omega
  ·obtain⟨e2,_⟩:=hlast k z hk hz;omega
theorem jJ(w:World)(a:Option Addr)(n c:Nat):(binOp .eql 24 (.slice a n c) (.slice none 0 0)).run Tryz.prog w=.ok (.bool a.isNone) w:=Lib.run_eql_slice_nil w _ _ a n c 0 0 Tryz.underlying24
theorem oG(w:World)(a:Option Addr)(n c:Nat):(binOp .eql 60 (.slice a n c) (.slice none 0 0)).run Tryz.prog w=.ok (.bool a.isNone) w:=Lib.run_eql_slice_nil w _ _ a n c 0 0 Tryz.underlying60
theorem oH(w:World)(a:Option Addr)(n c:Nat):(binOp .eql 36 (.slice a n c) (.slice none 0 0)).run Tryz.prog w=.ok (.bool a.isNone) w:=Lib.run_eql_slice_nil w _ _ a n c 0 0 Tryz.underlying36
attribute [local go_sem] jJ oG oH
theorem wV(w:World):Calls Tryz.prog 25 #[.slice none 0 0] w fun e w'=>e=.returned (.slice none 0 0)∧w'=w:=by
 go_enter Tryz.func25,Tryz.ntmps25
 go_wp2
 go_ret;exact⟨rfl,rfl⟩
def fG(l:List Int):List Value:=ints l++List.replicate 8 (Value.int .i64 77)
theorem nM(l:List Int)(k:Nat)(h1:l.length≤k)(h2:k<l.length+8):(fG l)[k]?=some (.int .i64 77):=by
 rw[fG,List.getElem?_append_right (by simpa [ints]using h1),List.getElem?_replicate,if_pos (by simp[ints];omega)]
theorem rX(l:List Int)(k:Nat)(h:k<l.length):(fG l)[k]?=some (.int .i64 l[k]):=by
 rw[fG,List.getElem?_append_left (by simpa [ints]using h)];simp[ints,h]
theorem pU(ad:Addr)(cap:Nat)(l:List Int)(w:World)(hl:l.length≤17592186044416)(hc:∀ j v,(ints l)[j]?=some v→w.cell? (ad.add j)=some v) :
  Calls Tryz.prog 25 #[.slice (some ad) l.length cap] w fun e w'=>∃ g,w.heap.size≤g∧g<w'.heap.size∧e=.returned (.slice (some ⟨g,0,none⟩) l.length (l.length+8)) ∧
   Below w.heap.size w w'∧RowAt w' g 0 (fG l)∧Room w' g (l.length+8):=by
 go_enter Tryz.func25,Tryz.ntmps25
 go_wp2_with (first
  | (at_make;refine bL _ rfl _ _ 24 rfl 3 (.int .i64 0) 1 8 Tryz.underlying24 Tryz.info3 _ _ _ _ (l.length+8) rfl rfl (by simp) (by simp) (by omega) (by omega) ?_)
  | (refine jK rfl (.tmp 13) (.tmp 14) 24 24 rfl 3 Tryz.underlying24 1 Tryz.size3 w.heap.size _ _ _ _ _ rfl rfl (by simp) _ 3 (eD _ _) (ints l) (by simp[ints]) ?_ ?_ ?_ ?_))
 case refine_1=>intro j v hv;exact(((Below.refl _ _).alloc (Nat.le_refl _) _).cell (qA (hc j v hv))).trans (hc j v hv)
 case refine_2=>simp[ints,size_madeCells]
 case refine_3=>intro v hv;simp[ints]at hv;obtain⟨x,_,rfl⟩:=hv;rfl
 intro w1 hon hrow hroom hsz;rw[size_madeCells]at hroom;have hb1:Below w.heap.size w w1:=((Below.refl _ _).alloc (Nat.le_refl _) _).trans (hon.below (by simp) (fun k hk=>by omega))
 have hlen:(fG l).length=l.length+8:=by simp[fG,ints]
 have Hlen:=aB hlen;clear hlen hon;have hz:w.heap.size<w1.heap.size:=by rw[hsz];simp
 clear hsz
 go_wp2
 go_loopw [5] (fun i wr=>∃ k:Nat,l.length≤k∧k≤l.length+8∧i=.int .i64 k∧Below w.heap.size w wr∧RowAt wr w.heap.size 0 ((fG l).take k)∧Room wr w.heap.size (l.length+8)∧w.heap.size<wr.heap.size) (fun i _=>l.length+8-(intOf i).toNat)
 case atStart=>exact⟨l.length,Nat.le_refl _,by omega,rfl,hb1,by rw[fG,List.take_left' (by simp[ints])];exact hrow,hroom,hz⟩
 case round=>
  obtain⟨k,hk1,hk2,rfl,hbel,hrw,hrm,hzr⟩:=hrel;clear hrow hroom hb1 hz
  by_cases hlt:k<l.length+8
  ·obtain⟨hs,hf⟩:=hrm k hlt;obtain⟨u,hu⟩:=Option.isSome_iff_exists.1 hs
   go_wp2
   go_roundw
   case rel=>
    refine⟨k+1,by omega,by omega,by go_num,hbel.setCell (by simp) _,?_,hrm.setCell _ _,by simp[World.setCell];omega⟩
    have:=RowAt.snoc (X:=fG l) (b:=w.heap.size) (off:=0) (w:=wr) (n:=k) (by rw[Hlen.out];exact hlt) hrw (.int .i64 77) (nM l k hk1 hlt) (by simpa using hs)
    simpa using this
   case measure=>simp[intOf];omega
  ·have hk:k=l.length+8:=by omega
   rw[List.take_of_length_le (by rw[Hlen.out];omega)]at hrw
   go_wp2
   go_ret;exact⟨w.heap.size,Nat.le_refl _,hzr,by simp,hbel,hrw,hrm⟩
theorem uK(b off cap:Nat)(l:List Int)(w:World)(hl:l.length≤17592186044416)(hc:RowAt w b off (ints l)) :
  Calls Tryz.prog 25 #[.slice (some ⟨b,off,none⟩) l.length cap] w fun e w'=>∃ g,w.heap.size≤g∧g<w'.heap.size∧e=.returned (.slice (some ⟨g,0,none⟩) l.length (l.length+8)) ∧
   Below w.heap.size w w'∧RowAt w' g 0 (fG l)∧Room w' g (l.length+8):=
 pU ⟨b,off,none⟩ cap l w hl (fun j v hv=>by rw[Addr.add_lit];exact hc j v hv)
theorem nF(ad:Addr)(b off cap g cap':Nat)(l:List Int)(w:World)(had:0<l.length→ad=⟨b,off,none⟩)(hl:l.length≤17592186044416)(hc:RowAt w b off (ints l))(hbg:b≠g)(hr:RowAt w g 0 (fG l))(hm:Room w g (l.length+8)) :
  Calls Tryz.prog 28 #[.slice (some ⟨g,0,none⟩) l.length (l.length+8),.slice (some ad) l.length cap] w fun e w'=>e=.returned (.bool true)∧Only (·=g) w w':=by
 go_enter Tryz.func28,Tryz.ntmps28
 go_wp2
 go_loopw [7,8,9] (fun ok i _ wr=>∃ k:Nat,k≤l.length+8∧i=.int .i64 k∧ok=.bool true∧Only (·=g) w wr∧RowAt wr g k ((fG l).drop k)∧Room wr g (l.length+8)) (fun _ i _ _=>l.length+8-(intOf i).toNat)
 case atStart=>exact⟨0,by omega,rfl,rfl,Only.refl _ _,by simpa using hr,hm⟩
 case round=>
  obtain⟨k,hk,rfl,rfl,hon,hrw,hrm⟩:=hrel
  by_cases hlt:k<l.length+8
  ·obtain⟨hs,hf⟩:=hrm k hlt;have hnext:RowAt (wr.setCell ⟨g,k,none⟩ (.int .i64 1)) g (k+1) ((fG l).drop (k+1)):=by
    intro j v hv;rw[World.cell?_setCell_other _ _ _ _ (by simp;try omega)]
    have:=hrw (j+1) v (by rw[List.getElem?_drop]at hv ⊢;rw[←hv];congr 1;omega)
    rw[←this];congr 2;omega
   have Hn:=aB hnext;clear hnext hr hm
   by_cases hl2:k<l.length
   ·obtain rfl:=had (by omega)
    have hu:wr.cell? ⟨g,k,none⟩=some (.int .i64 l[k]):=hrw 0 _ (by rw[List.getElem?_drop];simpa using rX l k hl2)
    have hx:wr.cell? ⟨b,off+k,none⟩=some (.int .i64 l[k]):=hon.at (hc k _ (by simp[ints,hl2])) hbg
    go_wp2
    go_roundw
    case rel=>exact⟨k+1,by omega,by go_num,rfl,hon.setCell rfl _,Hn.out,hrm.setCell _ _⟩
    case measure=>simp[intOf];omega
   ·have hu:wr.cell? ⟨g,k,none⟩=some (.int .i64 77):=hrw 0 _ (by rw[List.getElem?_drop];simpa using nM l k (by omega) hlt)
    go_wp2
    go_roundw
    case rel=>exact⟨k+1,by omega,by go_num,rfl,hon.setCell rfl _,Hn.out,hrm.setCell _ _⟩
    case measure=>simp[intOf];omega
  ·go_wp2
   go_ret;exact⟨rfl,hon⟩
theorem rY(b off cap g cap':Nat)(l:List Int)(w:World)(hl:l.length≤17592186044416)(hc:RowAt w b off (ints l))(hbg:b≠g)(hr:RowAt w g 0 (fG l))(hm:Room w g (l.length+8)) :
  Calls Tryz.prog 28 #[.slice (some ⟨g,0,none⟩) l.length (l.length+8),.slice (some ⟨b,off,none⟩) l.length cap] w fun e w'=>e=.returned (.bool true)∧Only (·=g) w w':=
 nF ⟨b,off,none⟩ b off cap g cap' l w (fun _=>rfl) hl hc hbg hr hm
theorem nG(v:Value)(w:World):Calls Tryz.prog 28 #[v,.slice none 0 0] w fun e w'=>e=.returned (.bool true)∧w'=w:=by
 go_enter Tryz.func28,Tryz.ntmps28
 go_wp2
 go_ret;exact⟨rfl,rfl⟩
attribute [local go_sem] jJ oG oH
def fH(l:List Ins):List Ins:=l++List.replicate 8 ⟨77,0,0,0⟩
theorem sD(l:List Ins)(k:Nat)(h1:l.length≤k)(h2:k<l.length+8):(fH l)[k]?=some ⟨77,0,0,0⟩:=by
 rw[fH,List.getElem?_append_right h1,List.getElem?_replicate,if_pos (by omega)]
theorem sE(l:List Ins)(k:Nat)(h:k<l.length):(fH l)[k]?=some l[k]:=by
 rw[fH,List.getElem?_append_left h];simp[h]
theorem wX(l:List Ins):(fH l).length=l.length+8:=by simp[fH]
theorem wY(w:World):Calls Tryz.prog 55 #[.slice none 0 0] w fun e w'=>e=.returned (.slice none 0 0)∧w'=w:=by
 go_enter Tryz.func55,Tryz.ntmps55
 go_wp2
 go_ret;exact⟨rfl,rfl⟩
theorem pW(ad:Addr)(cap:Nat)(l:List Ins)(w:World)(hl:l.length≤4398046511104)(hc:∀ j v,(aO l)[j]?=some v→w.cell? (ad.add j)=some v) :
  Calls Tryz.prog 55 #[.slice (some ad) l.length cap] w fun e w'=>∃ g,w.heap.size≤g∧g<w'.heap.size∧e=.returned (.slice (some ⟨g,0,none⟩) l.length (l.length+8)) ∧
   Below w.heap.size w w'∧CodeAt w' g 0 (fH l)∧Room w' g ((l.length+8)*4):=by
 go_enter Tryz.func55,Tryz.ntmps55
 go_wp2_with (first
  | (at_make;refine bL _ rfl _ _ 60 rfl 59 (.agg #[.int .i64 0,.int .i64 0,.int .i64 0,.int .i64 0]) 4 32 Tryz.underlying60 Tryz.info59 _ _ _ _ (l.length+8) rfl rfl (by simp) (by simp) (by omega) (by omega) ?_)
  | (refine jK rfl (.tmp 13) (.tmp 14) 60 60 rfl 59 Tryz.underlying60 4 Tryz.size59 w.heap.size _ _ _ _ _ rfl rfl (by simp) _ 59 (eD _ _) (aO l) (cL l) ?_ ?_ ?_ ?_))
 case refine_1=>intro j v hv;exact(((Below.refl _ _).alloc (Nat.le_refl _) _).cell (qA (hc j v hv))).trans (hc j v hv)
 case refine_2=>simp[cL,size_madeCells];omega
 case refine_3=>intro v hv;simp[aO,cP]at hv;obtain⟨x,_,rfl|rfl|rfl|rfl⟩:=hv<;>rfl
 intro w1 hon hrow hroom hsz;rw[size_madeCells]at hroom;have hb1:Below w.heap.size w w1:=((Below.refl _ _).alloc (Nat.le_refl _) _).trans (hon.below (by simp) (fun k hk=>by omega))
 have Hlen:=aB (wX l);clear hon;have hz:w.heap.size<w1.heap.size:=by rw[hsz];simp
 clear hsz;have hrow:=hrow.code
 go_wp2
 go_loopw [5] (fun i wr=>∃ k:Nat,l.length≤k∧k≤l.length+8∧i=.int .i64 k∧Below w.heap.size w wr∧CodeAt wr w.heap.size 0 ((fH l).take k)∧Room wr w.heap.size ((l.length+8)*4)∧w.heap.size<wr.heap.size) (fun i _=>l.length+8-(intOf i).toNat)
 case atStart=>exact⟨l.length,Nat.le_refl _,by omega,rfl,hb1,by rw[fH,List.take_left' rfl];exact hrow,hroom,hz⟩
 case round=>
  obtain⟨k,hk1,hk2,rfl,hbel,hrw,hrm,hzr⟩:=hrel;clear hrow hroom hb1 hz
  by_cases hlt:k<l.length+8
  ·obtain⟨hs0,hf0⟩:=hrm (k*4) (by omega)
   obtain⟨hs1,hf1⟩:=hrm (k*4+1) (by omega)
   obtain⟨hs2,hf2⟩:=hrm (k*4+2) (by omega)
   obtain⟨hs3,hf3⟩:=hrm (k*4+3) (by omega)
   obtain⟨u0,hu0⟩:=Option.isSome_iff_exists.1 hs0;obtain⟨u1,hu1⟩:=Option.isSome_iff_exists.1 hs1;obtain⟨u2,hu2⟩:=Option.isSome_iff_exists.1 hs2;obtain⟨u3,hu3⟩:=Option.isSome_iff_exists.1 hs3
   go_wp2
   go_roundw
   case rel=>
    have e1:=Below.set4 hbel (Nat.le_refl _) (k*4) ⟨77,0,0,0⟩;have e2:=hrw.snoc (sD l k hk1 hlt) hrm (by omega)
    have e3:=hrm.set4 w.heap.size (k*4) ⟨77,0,0,0⟩;have e4:=aBv wr w.heap.size (k*4) ⟨77,0,0,0⟩;simp only[set4]at e1 e2 e3 e4;exact⟨k+1,by omega,by omega,by go_num,e1,e2,e3,by rw[e4];exact hzr⟩
   case measure=>simp[intOf];omega
  ·have hk:k=l.length+8:=by omega
   rw[List.take_of_length_le (by rw[Hlen.out];omega)]at hrw
   go_wp2
   go_ret;exact⟨w.heap.size,Nat.le_refl _,hzr,by simp,hbel,hrw,hrm⟩
theorem uM(b off cap:Nat)(l:List Ins)(w:World)(hl:l.length≤4398046511104)(hc:CodeAt w b off l) :
  Calls Tryz.prog 55 #[.slice (some ⟨b,off,none⟩) l.length cap] w fun e w'=>∃ g,w.heap.size≤g∧g<w'.heap.size∧e=.returned (.slice (some ⟨g,0,none⟩) l.length (l.length+8)) ∧
   Below w.heap.size w w'∧CodeAt w' g 0 (fH l)∧Room w' g ((l.length+8)*4):=
 pW ⟨b,off,none⟩ cap l w hl (fun j v hv=>by rw[Addr.add_lit];exact hc.row j v hv)
theorem sF(ad:Addr)(cap:Nat)(w:World) :
  Calls Tryz.prog 55 #[.slice (some ad) 0 cap] w fun e w'=>∃ g,w.heap.size≤g∧g<w'.heap.size∧e=.returned (.slice (some ⟨g,0,none⟩) 0 (0+8)) ∧
   Below w.heap.size w w'∧CodeAt w' g 0 (fH [])∧Room w' g ((0+8)*4):=
 pW ad cap [] w (by simp) (fun j v hv=>by simp[aO]at hv)
def nO:Ins:=⟨1,1,1,0⟩
theorem uN(v:Value)(w:World):Calls Tryz.prog 59 #[v,.slice none 0 0] w fun e w'=>e=.returned (.bool true)∧w'=w:=by
 go_enter Tryz.func59,Tryz.ntmps59
 go_wp2
 go_ret;exact⟨rfl,rfl⟩
theorem CodeFrom.below{B:Nat}{w w':World}{b off k:Nat}{l:List Ins}(h:CodeFrom w b off k l)(hb:Below B w w')(hB:b<B):CodeFrom w' b off k l:=by
 intro i x hi hx;obtain⟨h1,h2,h3,h4⟩:=h i x hi hx;exact⟨aA hb h1 hB,aA hb h2 hB,aA hb h3 hB,aA hb h4 hB⟩
theorem sG{w wr wq:World}{g k n:Nat}{L:List Ins}(hon:Only (·=g) w wr)(hrw:CodeFrom wr g 0 k L)(hrm:Room wr g (n*4))(hones:CodeAt wr g 0 ((List.replicate n nO).take k))(hk:k<n)
  (hgr:g<wr.heap.size) (hb:Below wr.heap.size wr wq) :
  Only (·=g) w (set4 wq g (k*4) nO)∧CodeFrom (set4 wq g (k*4) nO) g 0 (k+1) L∧Room (set4 wq g (k*4) nO) g (n*4)∧CodeAt (set4 wq g (k*4) nO) g 0 ((List.replicate n nO).take (k+1)):=
 ⟨(hon.trans (Only.new hb)).set4 rfl _ _,(hrw.below hb hgr).next _,(hrm.below hb hgr).set4 _ _ _,(hones.below hb hgr).snoc (by simp[List.getElem?_replicate,hk]) (hrm.below hb hgr) (by omega)⟩
theorem nH(ad:Addr)(b off cap g:Nat)(l:List Ins)(w:World)(had:0<l.length→ad=⟨b,off,none⟩)(hl:l.length≤4398046511104)(hc:CodeAt w b off l)(hbg:b≠g)(hr:CodeAt w g 0 (fH l))(hm:Room w g ((l.length+8)*4))(hgw:g<w.heap.size) :
  Calls Tryz.prog 59 #[.slice (some ⟨g,0,none⟩) l.length (l.length+8),.slice (some ad) l.length cap] w fun e w'=>e=.returned (.bool true)∧Only (·=g) w w'∧CodeAt w' g 0 (List.replicate (l.length+8) nO):=by
 go_enter Tryz.func59,Tryz.ntmps59
 go_wp2
 go_loopw [7,8,9] (fun ok i _ wr=>∃ k:Nat,k≤l.length+8∧i=.int .i64 k∧ok=.bool true∧Only (·=g) w wr∧CodeFrom wr g 0 k (fH l)∧Room wr g ((l.length+8)*4)∧CodeAt wr g 0 ((List.replicate (l.length+8) nO).take k)) (fun _ i _ _=>l.length+8-(intOf i).toNat)
 case atStart=>exact⟨0,by omega,rfl,rfl,Only.refl _ _,fun i x _ hx=>hr i x hx,hm,fun i x hx=>by simp at hx⟩
 case round=>
  obtain⟨k,hk,rfl,rfl,hon,hrw,hrm,hones⟩:=hrel;have hgr:g<wr.heap.size:=Nat.lt_of_lt_of_le hgw hon.size
  by_cases hlt:k<l.length+8
  ·obtain⟨hs0,hf0⟩:=hrm (k*4) (by omega)
   obtain⟨hs1,hf1⟩:=hrm (k*4+1) (by omega)
   obtain⟨hs2,hf2⟩:=hrm (k*4+2) (by omega)
   obtain⟨hs3,hf3⟩:=hrm (k*4+3) (by omega)
   clear hs0 hs1 hs2 hs3
   by_cases hl2:k<l.length
   ·obtain rfl:=had (by omega)
    obtain⟨hu0,hu1,hu2,hu3⟩:=hrw k _ (Nat.le_refl _) (sE l k hl2);simp only[Nat.zero_add]at hu0 hu1 hu2 hu3;obtain⟨hx0,hx1,hx2,hx3⟩:=hc k l[k] (by simp)
    have hx0:=hon.at hx0 hbg;have hx1:=hon.at hx1 hbg;have hx2:=hon.at hx2 hbg;have hx3:=hon.at hx3 hbg;have hbr:=aC hx0
    go_wp2
    go_quiet (fail)
    go_wp2
    go_roundw
    case rel=>
     obtain⟨e1,e2,e3,e4⟩:=sG hon hrw hrm hones hlt hgr (below_drewN ((Below.refl wr.heap.size wr).alloc (Nat.le_refl _) (.cells #[.int .i64 l[k].op,.int .i64 l[k].a,.int .i64 l[k].b,.int .i64 l[k].c] 59)) nq);simp only[set4,nO]at e1 e2 e3 e4;exact⟨k+1,by omega,by go_num,rfl,e1,e2,e3,e4⟩
    case measure=>simp[intOf];omega
   ·obtain⟨hu0,hu1,hu2,hu3⟩:=hrw k _ (Nat.le_refl _) (sD l k (by omega) hlt)
    simp only[Nat.zero_add]at hu0 hu1 hu2 hu3
    go_wp2
    go_quiet (fail)
    go_wp2
    go_roundw
    case rel=>
     obtain⟨e1,e2,e3,e4⟩:=sG hon hrw hrm hones hlt hgr (below_drewN ((Below.refl wr.heap.size wr).alloc (Nat.le_refl _) (.cells #[.int .i64 77,.int .i64 0,.int .i64 0,.int .i64 0] 59)) nq);simp only[set4,nO]at e1 e2 e3 e4;exact⟨k+1,by omega,by go_num,rfl,e1,e2,e3,e4⟩
    case measure=>simp[intOf];omega
  ·go_wp2
   go_ret;refine⟨rfl,hon,?_⟩;have hk':k=l.length+8:=by omega
   rw[List.take_of_length_le (by simp;omega)]at hones
   exact hones
theorem sH(b off cap g:Nat)(l:List Ins)(w:World)(hl:l.length≤4398046511104)(hc:CodeAt w b off l)(hbg:b≠g)(hr:CodeAt w g 0 (fH l))(hm:Room w g ((l.length+8)*4))(hgw:g<w.heap.size) :
  Calls Tryz.prog 59 #[.slice (some ⟨g,0,none⟩) l.length (l.length+8),.slice (some ⟨b,off,none⟩) l.length cap] w fun e w'=>e=.returned (.bool true)∧Only (·=g) w w'∧CodeAt w' g 0 (List.replicate (l.length+8) nO):=
 nH ⟨b,off,none⟩ b off cap g l w (fun _=>rfl) hl hc hbg hr hm hgw
theorem qT(ad:Addr)(cap g:Nat)(w:World)(hr:CodeAt w g 0 (fH []))(hm:Room w g ((([]:List Ins).length+8)*4))(hgw:g<w.heap.size) :
  Calls Tryz.prog 59 #[.slice (some ⟨g,0,none⟩) ([]:List Ins).length (([]:List Ins).length+8),.slice (some ad) 0 cap] w fun e w'=>e=.returned (.bool true)∧Only (·=g) w w'∧CodeAt w' g 0 (List.replicate (([]:List Ins).length+8) nO):=
 nH ad (g+1) 0 cap g [] w (fun h=>by simp at h) (by simp) (fun i x hx=>by simp at hx) (by omega) hr hm hgw
end Go.Proofs.YtndlmgocldckfaaGreat
