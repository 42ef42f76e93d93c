import Derived.Test.YtndlmgocldckfaaGreatG08
import Derived.Test.YtndlmgocldckfaaGreatG02
import Derived.Test.YtndlmgocldckfaaGreatG20
namespace Go.Proofs.YtndlmgocldckfaaGreat
open Go.RowKit
set_option linter.unusedVariables false
set_option linter.unusedSimpArgs false
set_option maxRecDepth 100000
set_option maxHeartbeats 4000000
def BRowN(base:Nat)(w:World)(lv:Value)(l:List Int):Prop:=(lv=.slice none 0 0∧l=[])∨BRow base w lv l
theorem BRowN.keep{base:Nat}{w w':World}{lv:Value}{l:List Int}{U:Nat→Prop}(h:BRowN base w lv l)(ho:Only U w w')(hU:∀ b,some b=lv.ownBlock→¬U b):BRowN base w' lv l:=by
 rcases h with h|h
 ·exact .inl h
 ·exact .inr (h.keep ho hU)
theorem BRowN.below{base:Nat}{w w':World}{lv:Value}{l:List Int}(h:BRowN base w lv l)(hb:Below w.heap.size w w'):BRowN base w' lv l:=h.keep (Only.new (S:=fun _=>False) hb) (by simp)
theorem BRowN.lt{base:Nat}{w:World}{lv:Value}{l:List Int}(h:BRowN base w lv l):∀ b,some b=lv.ownBlock→base≤b∧b<w.heap.size:=by
 rcases h with⟨rfl,_⟩|h
 ·intro b hb;simp[Value.ownBlock]at hb
 ·exact h.lt
theorem BRowN.form{base:Nat}{w:World}{lv:Value}{l:List Int}(h:BRowN base w lv l):∃ a c,lv=.slice a l.length c:=by
 rcases h with⟨rfl,rfl⟩|h
 ·exact⟨none,0,rfl⟩
 ·obtain⟨g,cap,rfl⟩:=h.form;exact⟨_,_,rfl⟩
theorem BRow.unfrozen{base:Nat}{w:World}{lv:Value}{l:List Int}(h:BRow base w lv l):Free w lv:=by
 obtain⟨g,cap,cur,fz,rfl,_,hg,hz,_,_,hcs,_⟩:=h;intro b hb;simp[Value.ownBlock]at hb;subst hb;refine⟨(Array.getElem?_eq_some_iff.1 hg).1,fun j u hu=>?_⟩;have hj:j<cur.size:=by
  simp only[World.cell?,hg]at hu;rcases Nat.lt_or_ge j cur.size with h|h
  ·exact h
  ·rw[Array.getElem?_eq_none h]at hu;cases hu
 have:=hz j hj;obtain⟨lo,hi⟩:=fz;simp only[World.frozen?,hg];simp only[Bool.and_eq_false_iff,decide_eq_false_iff_not];simp only at this;omega
theorem BRowN.unfrozen{base:Nat}{w:World}{lv:Value}{l:List Int}(h:BRowN base w lv l):Free w lv:=by
 rcases h with⟨rfl,_⟩|h
 ·intro b hb;simp[Value.ownBlock]at hb
 ·exact h.unfrozen
theorem BRow.set{base:Nat}{w:World}{g n cap:Nat}{l:List Int}(h:BRow base w (.slice (some ⟨g,0,none⟩) n cap) l)(j:Nat)(hj:j<l.length)(x:Int):BRow base (w.setCell ⟨g,j,none⟩ (.int .u8 x)) (.slice (some ⟨g,0,none⟩) n cap) (l.set j x):=by
 obtain⟨g',cap',cur,fz,hv,hb,hg,hz,h1,h2,h3,h4⟩:=h;simp only[Value.slice.injEq,Option.some.injEq,Addr.mk.injEq,and_true,true_and]at hv;obtain⟨rfl,rfl,rfl⟩:=hv;rw[setCell_eq_setRow w g j cur 5 fz (.int .u8 x) hg];refine⟨g,cap,cur.setIfInBounds j (.int .u8 x),fz,by simp,hb,setRow_heap w g cur _ _ _ hg,by simpa using hz,by simpa using h1,h2,by simpa using h3,?_⟩
 rw[List.length_set,Array.toList_setIfInBounds];refine List.ext_getElem? fun i=>?_;have h5:=congrArg (fun z=>z[i]?) h4
 by_cases hi:i<l.length
 ·rw[List.getElem?_take,if_pos hi]at h5 ⊢
  by_cases e:i=j
  ·subst e;rw[List.getElem?_set_self (by simp;omega),aI,List.getElem?_map,List.getElem?_set_self hi]
   rfl
  ·rw[List.getElem?_set_ne (Ne.symm e),h5,aI,aI,List.getElem?_map,List.getElem?_map,List.getElem?_set_ne (Ne.symm e)]
 ·rw[List.getElem?_take,if_neg hi,List.getElem?_eq_none (by simp[aI];omega)]
theorem aBr(n:Nat)(m:Int):aI (List.replicate n m)=aZ n [.int .u8 m]:=by
 induction n with
 | zero=>rfl
 | succ n ih=>rw[oU,←ih,List.replicate_succ];rfl
theorem Fill.of_brow{w:World}{base:Nat}{v:Value}{n:Nat}{m:Int}(h:BRowN base w v (List.replicate n m)):Fill w v n (aZ n [.int .u8 m]):=by
 rcases h with⟨rfl,hn⟩|h
 ·have:n=0:=by simpa using congrArg List.length hn
  subst this;exact⟨none,0,rfl,by simp⟩
 ·obtain⟨g,cap,rfl,_,_,hr⟩:=h.row;rw[aBr]at hr;exact⟨_,_,by rw[List.length_replicate],fun _=>⟨g,rfl,hr⟩⟩
theorem uG{w:World}(base:Nat)(ty:TypeId)(v:Value)(l:List Int)(h:BRowN base w v l)(b c:Nat)(x:List Int)(hx0:0<x.length)(hnews:RowAt w b 0 (aI x))(hbytes:l.length+x.length≤1000000000000)(hbase:base≤w.heap.size) :
  ∃ v' w',(Builtin.append_ #[56,56] ty #[v,.slice (some ⟨b,0,none⟩) x.length c]).run Tryz.prog w=.ok v' w'∧BRow base w' v' (l++x)∧w.grownBy w' v.ownBlock∧BRowN base w' v l∧((v'.ownBlock=v.ownBlock∧v.ownBlock≠none)∨(Below w.heap.size w w'∧v'.ownBlock=some w.heap.size)):=by
 obtain⟨i,hi,hz,hs,hby⟩:=info_parts Tryz.infoU8;have ht:=Tryz.underlying56;have hn':∀ j u,(aI x)[j]?=some u→w.cell? ((⟨b,0,none⟩:Addr).add j)=some u:=fun j u hu=>by rw[Addr.add_lit];exact hnews j u hu
 have hl:(aI x).length=x.length*i.size:=by simp[aI,hs]
 rcases h with⟨rfl,rfl⟩|h
 ·have h0:=run_append_nil (P:=Tryz.prog) w 56 ty 5 i (.int .u8 0) ht hi hz ⟨b,0,none⟩ x.length c (aI x) hl hn' (by omega) (by omega) (by rw[hby];simp at hbytes ⊢;omega)
  have hge:=grownCap_ge w x.length 0 5;have hcm:grownCap w x.length 0 5≤maxLen:=grownCap_le_maxLen w x.length 0 5 (by simp only[maxLen];simp at hbytes;omega)
  refine⟨_,_,h0,?_,⟨rfl,rfl,rfl,by simp,fun k hk _=>heap_alloc_old w.drew _ hk⟩,.inl ⟨rfl,rfl⟩,.inr ⟨⟨rfl,rfl,rfl,by simp,fun k hk=>heap_alloc_old w.drew _ hk⟩,rfl⟩⟩
  refine⟨w.heap.size,_,_,(0,0),by simp,hbase,heap_alloc_new w.drew _,by intro i hi;simp,by simp;omega,hcm,?_,?_⟩
  ·simp only[Array.size_append,List.size_toArray,size_zeroCells,eA];simp[Value.cells];omega
  ·simp only[Array.toList_append];rw[List.nil_append,show x.length=(aI x).length by simp[aI]]
   exact List.take_left
 ·have hrow:=h.row;have hK:=h;obtain⟨g,cap,cur,fz,rfl,hb,hg,hcl,h1,h2,h3,h4⟩:=h;obtain⟨v',w',q1,q2,q3,q4⟩:=kZ (P:=Tryz.prog) base 56 ty ht i hi hz hs hby (.slice (some ⟨g,0,none⟩) l.length cap) l hK ⟨b,0,none⟩ c x hn' (by omega) hbase
  by_cases hroom:l.length+x.length≤cap
  ·have hf:=run_firstCells_some (P:=Tryz.prog) w i.size x.length ⟨b,0,none⟩ x.length c (aI x) hl hn';have hst:=eT (P:=Tryz.prog) g (l.length*i.size) 5 fz (aI x) 0 cur w hg hcl (by rw[hs,eA];omega) (vM x)
   simp only[Nat.add_zero]at hst;have hr:(Builtin.append_ #[56,56] ty #[.slice (some ⟨g,0,none⟩) l.length cap,.slice (some ⟨b,0,none⟩) x.length c]).run Tryz.prog w=.ok (.slice (some ⟨g,0,none⟩) (l.length+x.length) cap) (w.setRow g (cur.toList.take (l.length*i.size)++aI x++cur.toList.drop (l.length*i.size+(aI x).length)).toArray):=by
    simp[Builtin.append_,run_underlying ht,sizeOf,typeInfo,hi,Builtin.lenOf,hroom,hf,Addr.add_lit,hst]
   have hv:v'=.slice (some ⟨g,0,none⟩) (l.length+x.length) cap:=by
    rw[hr]at q1;cases q1
    rfl
   refine⟨v',w',q1,q2,q3,?_,.inl ⟨by rw[hv];rfl,by simp[Value.ownBlock]⟩⟩
   obtain⟨g',cap',cur',fz',e1,e2,e3,e4,e5,e6,e7,e8⟩:=q2;rw[hv]at e1;simp only[Value.slice.injEq,Option.some.injEq,Addr.mk.injEq,and_true]at e1;obtain⟨rfl,_,rfl⟩:=e1;refine .inr ⟨g,cap,cur',fz',rfl,hb,e3,e4,h1,h2,e7,?_⟩;have:=congrArg (List.take l.length) e8;rw[List.take_take,List.length_append,Nat.min_eq_left (by omega),kY]at this
   rw[this,show l.length=(aI l).length by simp[aI]]
   exact List.take_left
  ·obtain⟨g',cap',he,_,_,hrw⟩:=hrow;simp only[Value.slice.injEq,Option.some.injEq,Addr.mk.injEq]at he;obtain⟨⟨rfl,_⟩,_,rfl⟩:=he;have holds:∀ (j:Nat) u,(aI l)[j]?=some u→w.cell? ((⟨g,0,none⟩:Addr).add j)=some u:=fun j u hu=>by rw[Addr.add_lit];exact hrw j u hu
   have hr:=run_append_grow (P:=Tryz.prog) w 56 ty 5 i (.int .u8 0) ht hi hz ⟨g,0,none⟩ l.length cap (aI l) (by simp[aI,hs]) holds ⟨b,0,none⟩ x.length c (aI x) hl hn' (by omega) (by omega) (growslice_fits (by omega) (by rw[hby];omega))
   have q1':=q1;rw[hr]at q1';cases q1';have hbl:Below w.heap.size w (w.drew.alloc (.cells ((aI l).toArray++(aI x).toArray++Builtin.zeroCells (Value.int .u8 0).cells (grownCap w (l.length+x.length) cap 5-(l.length+x.length))) 5)):=⟨rfl,rfl,rfl,by simp,fun k hk=>heap_alloc_old w.drew _ hk⟩
   exact⟨_,_,q1,q2,q3,.inr (hK.keep (Only.new (S:=fun _=>False) hbl) (by simp)),.inr ⟨hbl,rfl⟩⟩
theorem gJ{w:World}{ops:Array Oper}{rest:List Oper}{o:Oper}{a:Act}{Q:Exit→Act→World→Prop}(hgd:o.guard=none)(s x:Operand)
  (ho:o.op=.call {callee:=.builtin .append,args:=#[s,x],argTypes:=#[56,56]}) (base:Nat)
  (v:Value) (l:List Int) (hs:a.eval s=v) (h:BRowN base w v l) (b c:Nat) (y:List Int) (hy0:0<y.length) (hx:a.eval x=.slice (some ⟨b,0,none⟩) y.length c) (hnews:RowAt w b 0 (aI y)) (hbytes:l.length+y.length≤1000000000000) (hbase:base≤w.heap.size)
  (hK:∀ v' w',Hid (BRow base w' v' (l++y))→Hid (w.grownBy w' v.ownBlock)→Hid (BRowN base w' v l∧((v'.ownBlock=v.ownBlock∧v.ownBlock≠none)∨(Below w.heap.size w w'∧v'.ownBlock=some w.heap.size)))→wpList Tryz.prog ops Q rest (a.put o.dst v') w'):wpList Tryz.prog ops Q (o::rest) a w:=by
 obtain⟨v',w',hr,h2,h3,h4⟩:=uG base o.type v l h b c y hy0 hnews hbytes hbase;refine wpList_plain hgd fun K hK'=>?_;unfold Oper.wp;simp[execOp,ho,resolve,invoke,builtin,hs,hx,hr,Result.andThen];exact hK' _ _ (hK v' w' h2 h3 h4)
theorem Fill.beside2{w w':World}{l v v1:Value}{n m d:Nat}{x:List Value}(h1:Fill w v1 (n+m) (aZ (n+m) x))(hmd:m≤d)(hd:0<d)
  (hf:Fill w' v (n+d) (aZ (n+d) x)) (hg:w.grownBy w' l.ownBlock) (hor:(v.ownBlock=l.ownBlock∧l.ownBlock≠none)∨(Below w.heap.size w w'∧v.ownBlock=some w.heap.size)):Fill w' v1 (n+m) (aZ (n+m) x):=by
 rcases hor with⟨he,_⟩|⟨hb,_⟩
 ·obtain⟨a,c,rfl,hx⟩:=h1;refine⟨a,c,rfl,fun hn=>?_⟩;obtain⟨b,rfl,hr⟩:=hx hn;refine⟨b,rfl,?_⟩
  by_cases hbl:some b=l.ownBlock
  ·obtain⟨a2,c2,rfl,hx2⟩:=hf;obtain⟨b2,rfl,hr2⟩:=hx2 (by omega)
   have e2:b2=b:=by
    have:some b2=some b:=he.trans hbl.symm;exact Option.some.inj this
   subst e2;intro j u hu;refine hr2 j u ?_;rw[show n+d=(n+m)+(d-m) by omega,fF,List.getElem?_append_left (List.getElem?_eq_some_iff.1 hu).1]
   exact hu
  ·exact hr.only (aF hg) hbl
 ·exact h1.only (Only.new (S:=fun _=>False) hb) (by simp)
theorem Free.beside{w w':World}{base:Nat}{l v1:Value}{xs:List Int}(h1:Free w v1)(hl:BRowN base w' l xs)(hg:w.grownBy w' l.ownBlock):Free w' v1:=by
 intro b hb
 by_cases hbl:some b=l.ownBlock
 ·exact hl.unfrozen b hbl
 ·have ho:=aF hg;obtain⟨q1,q2⟩:=h1 b hb;have hz:=hg.size;refine⟨by omega,fun j u hu=>?_⟩
  have hB:=ho.block b q1 hbl;rw[World.frozen?_of_block (w:=w) (a:=⟨b,j,none⟩) hB];rw[World.cell?_of_block (w:=w) (a:=⟨b,j,none⟩) hB]at hu;exact q2 j u hu
theorem Free.below{w w':World}{v:Value}(h:Free w v)(hb:Below w.heap.size w w'):Free w' v:=h.only (Only.new (S:=fun _=>False) hb) (by simp)
theorem xP{wr w1 w2 w3 A1 A2 A3:World}{Z s1 s2 s3:Nat}{m:Int}{l v1 v2 v3:Value}{j:Nat}(H0:BRowN Z wr l (List.replicate j m))
  (hA1:Below wr.heap.size wr A1) (h1:BRow Z w1 v1 (List.replicate (j+1) m)) (g1:A1.grownBy w1 l.ownBlock) (k1:BRowN Z w1 l (List.replicate j m)∧((v1.ownBlock=l.ownBlock∧l.ownBlock≠none)∨(Below s1 A1 w1∧v1.ownBlock=some s1))) (q1:A1.heap.size=s1)
  (hA2:Below w1.heap.size w1 A2) (h2:BRow Z w2 v2 (List.replicate (j+2) m)) (g2:A2.grownBy w2 l.ownBlock) (k2:BRowN Z w2 l (List.replicate j m)∧((v2.ownBlock=l.ownBlock∧l.ownBlock≠none)∨(Below s2 A2 w2∧v2.ownBlock=some s2))) (q2:A2.heap.size=s2)
  (hA3:Below w2.heap.size w2 A3) (h3:BRow Z w3 v3 (List.replicate (j+3) m)) (g3:A3.grownBy w3 l.ownBlock) (k3:BRowN Z w3 l (List.replicate j m)∧((v3.ownBlock=l.ownBlock∧l.ownBlock≠none)∨(Below s3 A3 w3∧v3.ownBlock=some s3))) (q3:A3.heap.size=s3) :
  (Only (fun b=>some b=l.ownBlock) wr w3∧∀ v n,(v,n)∈[(l,j),(v1,j+1),(v2,j+2),(v3,j+3)]→Fill w3 v n (aZ n [.int .u8 m])∧∀ b,some b=v.ownBlock→(some b=l.ownBlock∨wr.heap.size≤b)∧b<w3.heap.size)∧∀ v n,(v,n)∈[(l,j),(v1,j+1),(v2,j+2),(v3,j+3)]→Free w3 v:=by
 subst q1 q2 q3;have a1:=hA1.size;have a2:=hA2.size;have a3:=hA3.size;have b1:=g1.size;have b2:=g2.size;have b3:=g3.size;have ho:Only (fun b=>some b=l.ownBlock) wr w3:=((((((Only.new hA1).trans (aF g1)).trans (Only.new hA2)).trans (aF g2)).trans (Only.new hA3)).trans (aF g3));have F1:=Fill.of_brow (.inr h1);have F2:=Fill.of_brow (.inr h2);have F3:=Fill.of_brow (.inr h3);have f12:Fill w2 v1 (j+1) (aZ (j+1) [.int .u8 m]):=Fill.beside2 (d:=2) (F1.only (Only.new (S:=fun _=>False) hA2) (by simp)) (by omega) (by omega) F2 g2 k2.2
 have f13:Fill w3 v1 (j+1) (aZ (j+1) [.int .u8 m]):=Fill.beside2 (d:=3) (f12.only (Only.new (S:=fun _=>False) hA3) (by simp)) (by omega) (by omega) F3 g3 k3.2
 have f23:Fill w3 v2 (j+2) (aZ (j+2) [.int .u8 m]):=Fill.beside2 (d:=3) (F2.only (Only.new (S:=fun _=>False) hA3) (by simp)) (by omega) (by omega) F3 g3 k3.2
 have u13:Free w3 v1:=Free.beside ((Free.beside (h1.unfrozen.below hA2) k2.1 g2).below hA3) k3.1 g3;have u23:Free w3 v2:=Free.beside (h2.unfrozen.below hA3) k3.1 g3;refine⟨⟨ho,?_⟩,?_⟩
 ·intro v n hv;simp only[List.mem_cons,List.not_mem_nil,or_false,Prod.mk.injEq]at hv;rcases hv with⟨rfl,rfl⟩|⟨rfl,rfl⟩|⟨rfl,rfl⟩|⟨rfl,rfl⟩
  ·exact⟨Fill.of_brow k3.1,fun b hb=>⟨.inl hb,(k3.1.lt b hb).2⟩⟩
  ·refine⟨f13,fun b hb=>⟨?_,by have:=(h1.lt b hb).2;omega⟩⟩
   rcases k1.2 with⟨e,_⟩|⟨_,e⟩
   ·exact .inl (by rw[←e];exact hb)
   ·rw[e]at hb;have:=Option.some.inj hb;exact .inr (by omega)
  ·refine⟨f23,fun b hb=>⟨?_,by have:=(h2.lt b hb).2;omega⟩⟩
   rcases k2.2 with⟨e,_⟩|⟨_,e⟩
   ·exact .inl (by rw[←e];exact hb)
   ·rw[e]at hb;have:=Option.some.inj hb;exact .inr (by omega)
  ·refine⟨F3,fun b hb=>⟨?_,(h3.lt b hb).2⟩⟩;rcases k3.2 with⟨e,_⟩|⟨_,e⟩
   ·exact .inl (by rw[←e];exact hb)
   ·rw[e]at hb;have:=Option.some.inj hb;exact .inr (by omega)
 ·intro v n hv;simp only[List.mem_cons,List.not_mem_nil,or_false,Prod.mk.injEq]at hv;rcases hv with⟨rfl,rfl⟩|⟨rfl,rfl⟩|⟨rfl,rfl⟩|⟨rfl,rfl⟩
  ·exact k3.1.unfrozen
  ·exact u13
  ·exact u23
  ·exact h3.unfrozen
structure PendB(wb:Nat)(MK:List Value)(k0 k:BkD)(S:Nat→Prop)(w0 w:World)(todo:List (Value×Nat)):Prop where
 pend:Pend wb MK k0 k S w0 w todo
 fr:∀ v n,(v,n)∈todo→Free w v
 old:∀ (j:Nat) u b,k.bl[j]?=some u→some b=u.ownBlock→S b→j / 4=k0.bl.length / 4
theorem PendB.pushB{w0 w W w2:World}{k0 k:BkD}{wb:Nat}{MK:List Value}{v v':Value}{n:Nat}{S:Nat→Prop}{rest:List (Value×Nat)}(hh:PendB wb MK k0 k S w0 w ((v,n)::rest))(hmk:lP k.bl.length=MK)(h4:k.bl.length / 4=k0.bl.length / 4)(hB:Below w.heap.size w W)(hg:W.grownBy w2 k.bv.ownBlock)(hown:w2.ownsRow 0 56 1 v' (k.bl.length+1) (k.bl++[v]))(hwh:v'.ownBlock=k.bv.ownBlock∨v'.ownBlock=some W.heap.size) :
  PendB wb MK k0 {k with bv:=v',bl:=k.bl++[v]} S w0 (w2.setCell ⟨wb,1,none⟩ v') rest:=by
 have h:=hh.pend;obtain⟨hn,hv,hvs⟩:=h.todo v n List.mem_cons_self;rw[←hmk]at hv;obtain⟨h1,h2,h3⟩:=h.st.p.pushB (S:=S) hB hg hown hwh hn hv (hh.fr v n List.mem_cons_self) (fun j u b hu hb1 hb2=>by rw[h4];exact hh.old j u b hu hb2 (hvs b hb1).1) (fun b hb=>(hvs b hb).2) (fun b hb=>(hvs b hb).1)
 have hz:=h3.size;refine⟨⟨h.st.trans h1,fun x m hx=>?_⟩,fun x m hx=>?_,fun j u b hu hb hS=>?_⟩
 ·obtain⟨a1,a2,a3⟩:=h.todo x m (List.mem_cons_of_mem _ hx);refine⟨a1,a2.only h3 ?_,fun b hb=>?_⟩
  ·rintro b hb (e|e)
   ·exact(a3 b hb).2.2.2 e
   ·exact(a3 b hb).2.2.1 (.inl e)
  ·obtain⟨q1,q2,q3,q4⟩:=a3 b hb;exact⟨q1,by omega,h2 b q2 q3,q4⟩
 ·obtain⟨a1,a2,a3⟩:=h.todo x m (List.mem_cons_of_mem _ hx);refine(hh.fr x m (List.mem_cons_of_mem _ hx)).only h3 ?_;rintro b hb (e|e)
  ·exact(a3 b hb).2.2.2 e
  ·exact(a3 b hb).2.2.1 (.inl e)
 ·by_cases hj:j<k.bl.length
  ·rw[List.getElem?_append_left hj]at hu;exact hh.old j u b hu hb hS
  ·have hlt:=(List.getElem?_eq_some_iff.1 hu).1;simp at hlt;rw[show j=k.bl.length by omega]
   exact h4
structure MarkY(w wr:World)(Z:Nat)(l:Value)(n:Nat)(m:Int)(j:Nat):Prop where
 only:Only (fun b=>some b=l.ownBlock) w wr
 own:∃ ys,ys.length=n∧BRowN Z wr l ys∧ys.take j=List.replicate j m
theorem MarkY.out{w wr:World}{Z:Nat}{l:Value}{n:Nat}{m:Int}(h:MarkY w wr Z l n m n):BRowN Z wr l (List.replicate n m):=by
 obtain⟨ys,h1,h2,h3⟩:=h.own;rw[List.take_of_length_le (by omega)]at h3
 rw[←h3];exact h2
theorem MarkY.next{w wr:World}{Z:Nat}{g n c j:Nat}{m:Int}(h:MarkY w wr Z (.slice (some ⟨g,0,none⟩) n c) n m j)(hj:j<n):MarkY w (wr.setCell ⟨g,j,none⟩ (.int .u8 m)) Z (.slice (some ⟨g,0,none⟩) n c) n m (j+1):=by
 obtain⟨ys,h1,h2,h3⟩:=h.own;refine⟨h.only.setCell (p:=⟨g,j,none⟩) rfl _,ys.set j m,by simpa using h1,?_,?_⟩
 ·rcases h2 with⟨hc,_⟩|h2
  ·simp at hc
  ·exact .inr (h2.set j (by omega) m)
 ·rw[List.take_succ_eq_append_getElem (by simp;omega),List.take_set_of_le (Nat.le_refl _),h3]
  simp[List.replicate_succ']
theorem PendB.start{w wr w3:World}{wb:Nat}{k:BkD}{x:List Value}{l v1 v2 v3:Value}{j:Nat}(h:BkP w wb k)(hj:j≤1000000)(hls:∀ b,some b=l.ownBlock→¬k.set b∧b≠wb)(ho:Only (fun b=>some b=l.ownBlock) w wr)
  (h3:(Only (fun b=>some b=l.ownBlock) wr w3∧∀ v n,(v,n)∈[(l,j),(v1,j+1),(v2,j+2),(v3,j+3)]→Fill w3 v n (aZ n x)∧∀ b,some b=v.ownBlock→(some b=l.ownBlock∨wr.heap.size≤b)∧b<w3.heap.size)∧∀ v n,(v,n)∈[(l,j),(v1,j+1),(v2,j+2),(v3,j+3)]→Free w3 v) :
  PendB wb x k k (fun b=>some b=l.ownBlock∨w.heap.size≤b) w w3 [(l,j),(v1,j+1),(v2,j+2),(v3,j+3)]:=by
 refine⟨nL h hj hls ho h3.1,h3.2,?_⟩;rintro i u b hu hb (hc|hc)
 ·exact absurd (.inl ⟨u,.inl (List.mem_of_getElem? hu),hb⟩) (hls b hc).1
 ·have:=h.ok.elt b ⟨u,.inl (List.mem_of_getElem? hu),hb⟩;omega
theorem fY{Z:Nat}(wb:Nat)(k:BkD)(la:Option Addr)(n lc:Nat)(xs:List Int)(w:World)(h:BkP w wb k)(hl:BRowN Z w (.slice la n lc) xs)(hxl:xs.length=n)(hZ:Z≤w.heap.size)(hn:n≤1000000)(h4:k.bl.length % 4=0)(hlen:k.bl.length≤1099511627776)(hls:∀ b,some b=(Value.slice la n lc).ownBlock→¬k.set b∧b≠wb) :
  Calls Tryz.prog 41 #[.pointer (some ⟨wb,1,none⟩),.slice la n lc] w fun e w'=>e=.returned (.tuple #[])∧∃ k',BkStep wb k k' (fun b=>some b=(Value.slice la n lc).ownBlock) w w'∧k'.bl.length=k.bl.length+4∧k'.rl=k.rl∧k'.il=k.il:=by
 obtain⟨K,hK⟩:∃ K:BkD,K=k:=⟨_,rfl⟩;have HK:=aB hK;clear hK;have hc1:=h.c1;obtain⟨ia,ic,hbv⟩:=aM h.ok.bown;rw[hbv]at hc1;have H:=aB h;have Hl:=aB hl;have Hxl:=aB hxl;have Hbv:=aB hbv;obtain⟨m,hm⟩:∃ m:Int,m=200+((k.bl.length / 4 % 50:Nat):Int):=⟨_,rfl⟩;have Hm:=aB hm;have hwl:=h.lt;have HMk:Hid (∀ W,Calls Tryz.prog 19 #[.int .i64 k.bl.length] W fun e w'=>e=.returned (.int .u8 m)∧w'=W):=by
  intro W;rw[hm];exact rK k.bl.length W (by omega)
 clear h hl hbv hm hxl
 go_enter Tryz.func41,Tryz.ntmps41
 go_wp2_with (go_at_call 19;refine(HMk.out _).mono ?_;rintro e w1 ⟨rfl,hw1⟩;rw[hw1];clear hw1 w1)
 go_loopw [5] (fun i wr=>∃ (j:Nat),j≤n∧i=.int .i64 j∧Hid (MarkY w wr Z (.slice la n lc) n m j)) (fun i _=>n-(intOf i).toNat)
 case atStart=>exact⟨0,Nat.zero_le _,rfl,Only.refl _ _,xs,Hxl.out,Hl.out,rfl⟩
 case round=>
  obtain⟨j,hj,rfl,hI⟩:=hrel
  by_cases hlt:j<n
  ·have d1:decide ((j:Int)<(n:Int))=true:=by simp;omega
   have hjj:(j:Int)<(n:Int):=by omega
   have hw:IntKind.i64.wrap ((j:Int)+1)=(j:Int)+1:=by rw[IntKind.wrap_i64];omega
   obtain⟨g,u,rfl,hu,hfz⟩:∃ g u,la=some ⟨g,0,none⟩∧wr.cell? ⟨g,j,none⟩=some u∧wr.frozen? ⟨g,j,none⟩=false:=by
    obtain⟨ys,q1,q2,_⟩:=hI.out.own;have hF:=q2.unfrozen;rcases q2 with⟨_,hc⟩|q2
    ·rw[hc]at q1;simp at q1;omega
    ·obtain⟨g,cap,e,_,_,hr⟩:=q2.row;simp only[Value.slice.injEq]at e;have hc:=hr j (.int .u8 (ys[j]'(by omega))) (by simp[aI,show j<ys.length by omega])
     rw[Nat.zero_add]at hc;exact⟨g,_,e.1,hc,(hF g (by rw[e.1];rfl)).2 j _ hc⟩
   go_wp2_with fail
   go_roundw
   case rel=>exact⟨j+1,by omega,by go_num,hI.out.next hlt⟩
   case measure=>simp[intOf];omega
  ·have d1:decide ((j:Int)<(n:Int))=false:=by simp;omega
   have hjn:j=n:=by omega
   subst hjn;rename World=>wr;have HO:=aB hI.out.out;have HOn:=aB hI.out.only;clear hI;have hzr:=HOn.out.size;have hrl:∀ q:Nat,(List.replicate q m).length=q:=fun q=>List.length_replicate;have HN1:Hid (RowAt (wr.alloc (.cells #[.int .u8 m] 5)) wr.heap.size 0 (aI (List.replicate 1 m))):=bD wr _ [.int .u8 m]
   go_wp2_with (at_builtin;refine gJ rfl (.tmp 25) (.tmp 27) rfl Z (.slice la j lc) (List.replicate j m) rfl (HO.out.below (aE _ _)) wr.heap.size 1 (List.replicate 1 m) (by simp) rfl HN1.out (by simp;omega) (by simp;omega) ?_)
   intro v1 w1 hown1 hg1 hk1
   replace hown1:Hid (BRow Z w1 v1 (List.replicate (j+1) m)):=by have e:List.replicate j m++List.replicate 1 m=List.replicate (j+1) m:=List.replicate_append_replicate;show BRow _ _ _ _;rw[←e];exact hown1.out
   obtain⟨va1,vc1,rfl⟩:∃ a c,v1=.slice a (j+1) c:=by obtain⟨g,cap,e⟩:=hown1.out.form;exact⟨_,_,by rw[e,List.length_replicate]⟩
   have hz1:=hg1.out.size;simp only[World.size_alloc]at hz1;have HN2:Hid (RowAt (w1.alloc (.cells #[.int .u8 m,.int .u8 m] 5)) w1.heap.size 0 (aI (List.replicate 2 m))):=bD w1 _ [.int .u8 m,.int .u8 m]
   go_wp2_with (at_builtin;refine gJ rfl (.tmp 29) (.tmp 32) rfl Z (.slice la j lc) (List.replicate j m) rfl (hk1.out.1.below (aE _ _)) w1.heap.size 2 (List.replicate 2 m) (by simp) rfl HN2.out (by simp;omega) (by simp;omega) ?_)
   intro v2 w2 hown2 hg2 hk2
   replace hown2:Hid (BRow Z w2 v2 (List.replicate (j+2) m)):=by have e:List.replicate j m++List.replicate 2 m=List.replicate (j+2) m:=List.replicate_append_replicate;show BRow _ _ _ _;rw[←e];exact hown2.out
   obtain⟨va2,vc2,rfl⟩:∃ a c,v2=.slice a (j+2) c:=by obtain⟨g,cap,e⟩:=hown2.out.form;exact⟨_,_,by rw[e,List.length_replicate]⟩
   have hz2:=hg2.out.size;simp only[World.size_alloc]at hz2;have HN3:Hid (RowAt (w2.alloc (.cells #[.int .u8 m,.int .u8 m,.int .u8 m] 5)) w2.heap.size 0 (aI (List.replicate 3 m))):=bD w2 _ [.int .u8 m,.int .u8 m,.int .u8 m]
   go_wp2_with (at_builtin;refine gJ rfl (.tmp 34) (.tmp 38) rfl Z (.slice la j lc) (List.replicate j m) rfl (hk2.out.1.below (aE _ _)) w2.heap.size 3 (List.replicate 3 m) (by simp) rfl HN3.out (by simp;omega) (by simp;omega) ?_)
   intro v3 w3 hown3 hg3 hk3
   replace hown3:Hid (BRow Z w3 v3 (List.replicate (j+3) m)):=by have e:List.replicate j m++List.replicate 3 m=List.replicate (j+3) m:=List.replicate_append_replicate;show BRow _ _ _ _;rw[←e];exact hown3.out
   obtain⟨va3,vc3,rfl⟩:∃ a c,v3=.slice a (j+3) c:=by obtain⟨g,cap,e⟩:=hown3.out.form;exact⟨_,_,by rw[e,List.length_replicate]⟩
   have hz3:=hg3.out.size;simp only[World.size_alloc]at hz3;have HP0:=aB (PendB.start H.out (by omega) hls HOn.out (xP HO.out (aE _ _) hown1.out hg1.out hk1.out (by simp) (aE _ _) hown2.out hg2.out hk2.out (by simp) (aE _ _) hown3.out hg3.out hk3.out (by simp)))
   clear hown1 hg1 hk1 hown2 hg2 hk2 hown3 hg3 hk3 HO HOn H hls Hl hwl hrl HN1 HN2 HN3 HMk;have hL0:Hid (k.bl.length=K.bl.length+0∧k.rl=K.rl∧k.il=K.il):=by rw[HK.out];exact⟨rfl,rfl,rfl⟩
   have e0:=HP0.out.pend.st.p.c1;have hw0:=HP0.out.pend.st.p.lt;have hmk0:Hid (lP k.bl.length=[.int .u8 m]):=by show _=_;rw[Hm.out];rfl
   have hlen0:k.bl.length≤1099511627776+0:=by have:=hL0.out.1;rw[HK.out]at this;omega
   go_wp2_with (at_builtin;refine aD rfl (.tmp 44) (.tmp 46) 29 rfl 0 56 (.slice none 0 0) 1 24 Tryz.underlying29 Tryz.infoBs rfl (by omega) _ k.bl.length k.bl rfl (HP0.out.pend.st.p.ok.bown.alloc _) _ 1 [(.slice la j lc)] rfl (.inr (.inl ⟨w3.heap.size,0,1,rfl,bD w3 _ [(.slice la j lc)]⟩)) rfl (by intro u hu;simp at hu;subst hu;rfl) (by omega) (by omega) (by omega) ?_)
   intro u0 x0 xo0 xg0 xw0;obtain⟨f0,z0⟩:=HP0.out.pend.midB (aE _ _) xg0.out;obtain⟨ua0,uc0,rfl⟩:=aM xo0.out;have HQ0:=aB (HP0.out.pushB hmk0.out rfl (aE _ _) xg0.out xo0.out (by simpa using xw0.out))
   obtain⟨k1,hkn0⟩:∃ zz:BkD,zz={k with bv:=.slice ua0 (k.bl.length+1) uc0,bl:=k.bl++[(.slice la j lc)]}:=⟨_,rfl⟩;have hL1:Hid (k1.bl.length=K.bl.length+1∧k1.rl=K.rl∧k1.il=K.il):=by
    have:=hL0.out;rw[hkn0];exact⟨by simp only[List.length_append,List.length_cons,List.length_nil];omega,this.2.1,this.2.2⟩
   have hbv1:Hid (k1.bv=.slice ua0 (k.bl.length+1) uc0):=by show _=_;rw[hkn0]
   rw[←hkn0]at HQ0;obtain⟨y1,hy1⟩:∃ y,Hid (y=x0.setCell ⟨wb,1,none⟩ (.slice ua0 (k.bl.length+1) uc0)):=⟨_,rfl⟩;have hsz1:Hid (y1.heap.size=x0.heap.size):=by show _=_;rw[hy1.out];simp[World.setCell]
   have HP1:=HQ0;rw[←hy1.out]at HP1;clear hkn0 xo0 xg0 xw0 hmk0 HQ0 HP0 e0;have hw1:=HP1.out.pend.st.p.lt;have hmk1:Hid (lP k1.bl.length=[.int .u8 m]):=by show _=_;have q1:=hL1.out.1;have q2:=h4;rw[←HK.out]at q2;rw[Hm.out,lP,←HK.out,q1];congr 5;try omega
   have hlen1:k1.bl.length≤1099511627776+1:=by have:=hL1.out.1;rw[HK.out]at this;omega
   have H4_1:Hid (k1.bl.length / 4=k.bl.length / 4):=by show _=_;have q1:=hL1.out.1;rw[HK.out]at q1;omega
   go_wp2_with (at_builtin;rw[←hy1.out];refine aD rfl (.tmp 54) (.tmp 56) 29 rfl 0 56 (.slice none 0 0) 1 24 Tryz.underlying29 Tryz.infoBs rfl (by omega) _ k1.bl.length k1.bl rfl ((fZ hbv1.out HP1.out.pend.st.p.ok.bown).alloc _) _ 1 [(.slice va1 (j+1) vc1)] rfl (.inr (.inl ⟨x0.heap.size,0,1,rfl,nC hsz1.out (bD y1 _ [(.slice va1 (j+1) vc1)])⟩)) rfl (by intro u hu;simp at hu;subst hu;rfl) (by omega) (by omega) (by omega) ?_)
   intro u1 x1 xo1 xg1 xw1;rw[←hbv1.out]at xg1 xw1;obtain⟨f1,z1⟩:=HP1.out.pend.midB (aE _ _) xg1.out;obtain⟨ua1,uc1,rfl⟩:=aM xo1.out;have HQ1:=aB (HP1.out.pushB hmk1.out H4_1.out (aE _ _) xg1.out xo1.out (by simpa using xw1.out))
   obtain⟨k2,hkn1⟩:∃ zz:BkD,zz={k1 with bv:=.slice ua1 (k1.bl.length+1) uc1,bl:=k1.bl++[(.slice va1 (j+1) vc1)]}:=⟨_,rfl⟩;have hL2:Hid (k2.bl.length=K.bl.length+2∧k2.rl=K.rl∧k2.il=K.il):=by
    have:=hL1.out;rw[hkn1];exact⟨by simp only[List.length_append,List.length_cons,List.length_nil];omega,this.2.1,this.2.2⟩
   have hbv2:Hid (k2.bv=.slice ua1 (k1.bl.length+1) uc1):=by show _=_;rw[hkn1]
   rw[←hkn1]at HQ1;obtain⟨y2,hy2⟩:∃ y,Hid (y=x1.setCell ⟨wb,1,none⟩ (.slice ua1 (k1.bl.length+1) uc1)):=⟨_,rfl⟩;have hsz2:Hid (y2.heap.size=x1.heap.size):=by show _=_;rw[hy2.out];simp[World.setCell]
   have HP2:=HQ1;rw[←hy2.out]at HP2;clear hkn1 xo1 xg1 xw1 hmk1 HQ1 HP1;have hw2:=HP2.out.pend.st.p.lt;have hmk2:Hid (lP k2.bl.length=[.int .u8 m]):=by show _=_;have q1:=hL2.out.1;have q2:=h4;rw[←HK.out]at q2;rw[Hm.out,lP,←HK.out,q1];congr 5;try omega
   have hlen2:k2.bl.length≤1099511627776+2:=by have:=hL2.out.1;rw[HK.out]at this;omega
   have H4_2:Hid (k2.bl.length / 4=k.bl.length / 4):=by show _=_;have q1:=hL2.out.1;rw[HK.out]at q1;omega
   go_wp2_with (at_builtin;rw[←hy2.out];refine aD rfl (.tmp 64) (.tmp 66) 29 rfl 0 56 (.slice none 0 0) 1 24 Tryz.underlying29 Tryz.infoBs rfl (by omega) _ k2.bl.length k2.bl rfl ((fZ hbv2.out HP2.out.pend.st.p.ok.bown).alloc _) _ 1 [(.slice va2 (j+2) vc2)] rfl (.inr (.inl ⟨x1.heap.size,0,1,rfl,nC hsz2.out (bD y2 _ [(.slice va2 (j+2) vc2)])⟩)) rfl (by intro u hu;simp at hu;subst hu;rfl) (by omega) (by omega) (by omega) ?_)
   intro u2 x2 xo2 xg2 xw2;rw[←hbv2.out]at xg2 xw2;obtain⟨f2,z2⟩:=HP2.out.pend.midB (aE _ _) xg2.out;obtain⟨ua2,uc2,rfl⟩:=aM xo2.out;have HQ2:=aB (HP2.out.pushB hmk2.out H4_2.out (aE _ _) xg2.out xo2.out (by simpa using xw2.out))
   obtain⟨k3,hkn2⟩:∃ zz:BkD,zz={k2 with bv:=.slice ua2 (k2.bl.length+1) uc2,bl:=k2.bl++[(.slice va2 (j+2) vc2)]}:=⟨_,rfl⟩;have hL3:Hid (k3.bl.length=K.bl.length+3∧k3.rl=K.rl∧k3.il=K.il):=by
    have:=hL2.out;rw[hkn2];exact⟨by simp only[List.length_append,List.length_cons,List.length_nil];omega,this.2.1,this.2.2⟩
   have hbv3:Hid (k3.bv=.slice ua2 (k2.bl.length+1) uc2):=by show _=_;rw[hkn2]
   rw[←hkn2]at HQ2;obtain⟨y3,hy3⟩:∃ y,Hid (y=x2.setCell ⟨wb,1,none⟩ (.slice ua2 (k2.bl.length+1) uc2)):=⟨_,rfl⟩;have hsz3:Hid (y3.heap.size=x2.heap.size):=by show _=_;rw[hy3.out];simp[World.setCell]
   have HP3:=HQ2;rw[←hy3.out]at HP3;clear hkn2 xo2 xg2 xw2 hmk2 HQ2 HP2;have hw3:=HP3.out.pend.st.p.lt;have hmk3:Hid (lP k3.bl.length=[.int .u8 m]):=by show _=_;have q1:=hL3.out.1;have q2:=h4;rw[←HK.out]at q2;rw[Hm.out,lP,←HK.out,q1];congr 5;try omega
   have hlen3:k3.bl.length≤1099511627776+3:=by have:=hL3.out.1;rw[HK.out]at this;omega
   have H4_3:Hid (k3.bl.length / 4=k.bl.length / 4):=by show _=_;have q1:=hL3.out.1;rw[HK.out]at q1;omega
   go_wp2_with (at_builtin;rw[←hy3.out];refine aD rfl (.tmp 74) (.tmp 76) 29 rfl 0 56 (.slice none 0 0) 1 24 Tryz.underlying29 Tryz.infoBs rfl (by omega) _ k3.bl.length k3.bl rfl ((fZ hbv3.out HP3.out.pend.st.p.ok.bown).alloc _) _ 1 [(.slice va3 (j+3) vc3)] rfl (.inr (.inl ⟨x2.heap.size,0,1,rfl,nC hsz3.out (bD y3 _ [(.slice va3 (j+3) vc3)])⟩)) rfl (by intro u hu;simp at hu;subst hu;rfl) (by omega) (by omega) (by omega) ?_)
   intro u3 x3 xo3 xg3 xw3;rw[←hbv3.out]at xg3 xw3;obtain⟨f3,z3⟩:=HP3.out.pend.midB (aE _ _) xg3.out;obtain⟨ua3,uc3,rfl⟩:=aM xo3.out;have HQ3:=aB (HP3.out.pushB hmk3.out H4_3.out (aE _ _) xg3.out xo3.out (by simpa using xw3.out))
   obtain⟨k4,hkn3⟩:∃ zz:BkD,zz={k3 with bv:=.slice ua3 (k3.bl.length+1) uc3,bl:=k3.bl++[(.slice va3 (j+3) vc3)]}:=⟨_,rfl⟩;have hL4:Hid (k4.bl.length=K.bl.length+4∧k4.rl=K.rl∧k4.il=K.il):=by
    have:=hL3.out;rw[hkn3];exact⟨by simp only[List.length_append,List.length_cons,List.length_nil];omega,this.2.1,this.2.2⟩
   have hbv4:Hid (k4.bv=.slice ua3 (k3.bl.length+1) uc3):=by show _=_;rw[hkn3]
   rw[←hkn3]at HQ3;obtain⟨y4,hy4⟩:∃ y,Hid (y=x3.setCell ⟨wb,1,none⟩ (.slice ua3 (k3.bl.length+1) uc3)):=⟨_,rfl⟩;have hsz4:Hid (y4.heap.size=x3.heap.size):=by show _=_;rw[hy4.out];simp[World.setCell]
   have HP4:=HQ3;rw[←hy4.out]at HP4;clear hkn3 xo3 xg3 xw3 hmk3 HQ3 HP3
   go_wp2_with fail
   rw[←hy4.out];refine bodyPost_end (results_none rfl _ _ _) rfl ?_;exact⟨rfl,k4,HP4.out.pend.st.done,by rw[←HK.out];exact hL4.out⟩
end Go.Proofs.YtndlmgocldckfaaGreat
