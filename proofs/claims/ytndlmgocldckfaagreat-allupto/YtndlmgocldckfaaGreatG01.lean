import Derived.Test.YtndlmgocldckfaaGreatRows
import Derived.WalkKit
import Derived.WalkSpells
import Derived.WalkLawsBesides
import Derived.WalkSmall
import Derived.Laws.CopyOwn
import Derived.Laws.AppendOwnNone
namespace Go.Proofs.YtndlmgocldckfaaGreat
open Go.RowKit
def inB(n lo hi:Int):Bool:=decide (lo≤n)&&decide (n≤hi)
def aX(ents:Int)(nk:Nat)(op a b c:Int):Bool:=
 if op=6 then (inB a 0 (nk-1)&&inB b 0 (ents-1))&&inB c 0 3
 else if c≠0 then false
 else if op=1 then inB a 0 3&&inB b (-1000000000) 1000000000
 else if op=2∨op=3 then inB a 0 3&&inB b 0 3
 else if op=4 then inB a 0 3&&inB b 1 1000000000
 else if op=5 then inB a 0 3&&inB b 1 16
 else if op=7∨op=8 then decide (b=0)&&inB a 0 3
 else false
end Go.Proofs.YtndlmgocldckfaaGreat

namespace Go.Proofs.YtndlmgocldckfaaGreat
open Go.RowKit
set_option linter.unusedVariables false
set_option linter.unusedSimpArgs false
set_option maxRecDepth 100000
set_option maxHeartbeats 4000000
structure Ins where
 op:Int
 a:Int
 b:Int
 c:Int
def CodeAt(w:World)(b off:Nat)(l:List Ins):Prop:=
 ∀ i x,l[i]?=some x→w.cell? ⟨b,off+i*4,none⟩=some (.int .i64 x.op)∧w.cell? ⟨b,off+i*4+1,none⟩=some (.int .i64 x.a) ∧
  w.cell? ⟨b,off+i*4+2,none⟩=some (.int .i64 x.b)∧w.cell? ⟨b,off+i*4+3,none⟩=some (.int .i64 x.c)
def CodeV(B:Nat)(w:World)(v:Value)(l:List Ins):Prop:=
 l.length≤4398046511104∧((v=.slice none 0 0∧l=[])∨(∃ b off cap,v=.slice (some ⟨b,off,none⟩) l.length cap∧b<B∧CodeAt w b off l)∨∃ a cap,v=.slice (some a) 0 cap∧l=[])
theorem aG3{W w1:World}(hb:Below W.heap.size W w1):(∀ b o,b<W.heap.size→w1.cell? ⟨b,o,none⟩=W.cell? ⟨b,o,none⟩)∧(∀ b o,b<W.heap.size→w1.frozen? ⟨b,o,none⟩=W.frozen? ⟨b,o,none⟩):=
 ⟨fun b o h=>hb.cell (p:=⟨b,o,none⟩) h,fun b o h=>hb.frozen (p:=⟨b,o,none⟩) h⟩
theorem aA{B:Nat}{w w':World}(h:Below B w w'){b o:Nat}{v:Value}(hc:w.cell? ⟨b,o,none⟩=some v)(hb:b<B):w'.cell? ⟨b,o,none⟩=some v:=(h.cell (p:=⟨b,o,none⟩) hb).trans hc
theorem aB{p:Prop}(h:p):Hid p:=h
theorem CodeAt.below{B:Nat}{w w':World}{b off:Nat}{l:List Ins}(h:CodeAt w b off l)(hb:Below B w w')(hB:b<B):CodeAt w' b off l:=by
 intro i x hx;obtain⟨h1,h2,h3,h4⟩:=h i x hx;exact⟨(hb.cell (p:=⟨b,_,none⟩) hB).trans h1,(hb.cell (p:=⟨b,_,none⟩) hB).trans h2,(hb.cell (p:=⟨b,_,none⟩) hB).trans h3,(hb.cell (p:=⟨b,_,none⟩) hB).trans h4⟩
theorem CodeV.below{B:Nat}{w w':World}{v:Value}{l:List Ins}(h:CodeV B w v l)(hb:Below B w w'):CodeV B w' v l:=by
 obtain⟨hl,h|⟨b,off,cap,rfl,hB,hc⟩|h⟩:=h
 ·exact⟨hl,.inl h⟩
 ·exact⟨hl,.inr (.inl ⟨b,off,cap,rfl,hB,hc.below hb hB⟩)⟩
 ·exact⟨hl,.inr (.inr h)⟩
theorem CodeV.mono{B B':Nat}{w:World}{v:Value}{l:List Ins}(h:CodeV B w v l)(hB:B≤B'):CodeV B' w v l:=by
 obtain⟨hl,h|⟨b,off,cap,rfl,hb,hc⟩|h⟩:=h
 ·exact⟨hl,.inl h⟩
 ·exact⟨hl,.inr (.inl ⟨b,off,cap,rfl,by omega,hc⟩)⟩
 ·exact⟨hl,.inr (.inr h)⟩
def KindsAt(B:Nat)(w:World)(b off:Nat)(ks:List (List Ins)):Prop:=
 ∀ i l,ks[i]?=some l→∃ v,w.cell? ⟨b,off+i,none⟩=some v∧CodeV B w v l
def KindsV(B:Nat)(w:World)(v:Value)(ks:List (List Ins)):Prop:=
 ks.length≤5864062014805∧((v=.slice none 0 0∧ks=[])∨(∃ b off cap,v=.slice (some ⟨b,off,none⟩) ks.length cap∧b<B∧KindsAt B w b off ks)∨∃ a cap,v=.slice (some a) 0 cap∧ks=[])
theorem KindsAt.below{B B':Nat}{w w':World}{b off:Nat}{ks:List (List Ins)}(h:KindsAt B w b off ks)(hb:Below B' w w')(hB:b<B')(hB':B≤B'):KindsAt B w' b off ks:=by
 intro i l hl;obtain⟨v,hc,hv⟩:=h i l hl;exact⟨v,(hb.cell (p:=⟨b,_,none⟩) hB).trans hc,hv.below (hb.mono hB')⟩
theorem KindsAt.mono{B B':Nat}{w:World}{b off:Nat}{ks:List (List Ins)}(h:KindsAt B w b off ks)(hB:B≤B'):KindsAt B' w b off ks:=by
 intro i l hl;obtain⟨v,hc,hv⟩:=h i l hl;exact⟨v,hc,hv.mono hB⟩
theorem KindsV.below{B:Nat}{w w':World}{v:Value}{ks:List (List Ins)}(h:KindsV B w v ks)(hb:Below B w w'):KindsV B w' v ks:=by
 obtain⟨hl,h|⟨b,off,cap,rfl,hB,hc⟩|h⟩:=h
 ·exact⟨hl,.inl h⟩
 ·exact⟨hl,.inr (.inl ⟨b,off,cap,rfl,hB,hc.below hb hB (Nat.le_refl _)⟩)⟩
 ·exact⟨hl,.inr (.inr h)⟩
theorem KindsV.mono{B B':Nat}{w:World}{v:Value}{ks:List (List Ins)}(h:KindsV B w v ks)(hB:B≤B'):KindsV B' w v ks:=by
 obtain⟨hl,h|⟨b,off,cap,rfl,hb,hc⟩|h⟩:=h
 ·exact⟨hl,.inl h⟩
 ·exact⟨hl,.inr (.inl ⟨b,off,cap,rfl,by omega,hc.mono hB⟩)⟩
 ·exact⟨hl,.inr (.inr h)⟩
def cK(ents:Int)(nk:Nat):List Ins→Nat→Option Nat
 | [],_=>none
 | x::l,i=>if aX ents nk x.op x.a x.b x.c then cK ents nk l (i+1)else some i
def gR(ents:Int)(nk:Nat)(l:List Ins):Option Nat:=if 16<l.length then some 0 else cK ents nk l 0
theorem nE{ents:Int}{nk:Nat}{l:List Ins}{n:Nat}(h:n<l.length) :
  cK ents nk (l.drop n) n=if aX ents nk l[n].op l[n].a l[n].b l[n].c then cK ents nk (l.drop (n+1)) (n+1)else some n:=by
 rw[List.drop_eq_getElem_cons h,cK]
def bM(ents:Int)(nk:Nat):List (List Ins)→Nat→Option (Nat×Nat)
 | [],_=>none
 | l::ks,i=>match gR ents nk l with
  | none=>bM ents nk ks (i+1)
  | some p=>some (i,p)
theorem lU{ents:Int}{nk:Nat}{ks:List (List Ins)}{n:Nat}(h:n<ks.length) :
  bM ents nk (ks.drop n) n=match gR ents nk ks[n]with
   | none=>bM ents nk (ks.drop (n+1)) (n+1)
   | some p=>some (n,p):=by
 rw[List.drop_eq_getElem_cons h,bM]
def bE(ents:Int)(ks:List (List Ins)):Option (Nat×Nat):=
 if !inB ents 1 8||!inB ks.length 1 8 then some (0,0)else bM ents ks.length ks 0
def bO(ents:Int)(ks:List (List Ins)):Value:=
 match bE ents ks with
 | none=>.tuple #[.int .i64 0,.int .i64 0,.int .i64 0]
 | some (k,p)=>.tuple #[.int .i64 2,.int .i64 k,.int .i64 p]
def wR(ents:Int)(ks:List (List Ins)):Int:=if (bE ents ks).isNone then 0 else 2
def wS(ents:Int)(ks:List (List Ins)):Int:=(((bE ents ks).map (·.1)).getD 0:Nat)
def wT(ents:Int)(ks:List (List Ins)):Int:=(((bE ents ks).map (·.2)).getD 0:Nat)
theorem iJ(ents:Int)(ks:List (List Ins)):bO ents ks=.tuple #[.int .i64 (wR ents ks),.int .i64 (wS ents ks),.int .i64 (wT ents ks)]:=by
 unfold bO wR wS wT;rcases bE ents ks with _|⟨k,p⟩<;>simp
structure Only(S:Nat→Prop)(w w':World):Prop where
 os:w'.os=w.os
 tape:w'.tape=w.tape
 output:w'.output=w.output
 size:w.heap.size≤w'.heap.size
 block:∀ k,k<w.heap.size→¬S k→w'.heap[k]?=w.heap[k]?
theorem Only.refl(S:Nat→Prop)(w:World):Only S w w:=⟨rfl,rfl,rfl,Nat.le_refl _,fun _ _ _=>rfl⟩
theorem Only.trans{S:Nat→Prop}{a b c:World}(h:Only S a b)(k:Only S b c):Only S a c:=
 ⟨k.os.trans h.os,k.tape.trans h.tape,k.output.trans h.output,Nat.le_trans h.size k.size,fun i hi hs=>(k.block i (Nat.lt_of_lt_of_le hi h.size) hs).trans (h.block i hi hs)⟩
theorem Only.mono{S S':Nat→Prop}{w w':World}(h:Only S w w')(hs:∀ k,k<w.heap.size→S k→S' k):Only S' w w':=
 ⟨h.os,h.tape,h.output,h.size,fun k hk hn=>h.block k hk (fun x=>hn (hs k hk x))⟩
theorem Only.ofBelow{B:Nat}{S:Nat→Prop}{w w':World}(h:Below B w w')(hs:∀ k,B≤k→k<w.heap.size→S k):Only S w w':=
 ⟨h.os,h.tape,h.output,h.size,fun k hk hn=>h.block k (Nat.lt_of_not_le fun hB=>hn (hs k hB hk))⟩
theorem Only.new{S:Nat→Prop}{w w':World}(h:Below w.heap.size w w'):Only S w w':=Only.ofBelow h (fun k h1 h2=>absurd h2 (by omega))
theorem Only.below{S:Nat→Prop}{B:Nat}{w w':World}(h:Only S w w')(hB:B≤w.heap.size)(hs:∀ k,k<B→¬S k):Below B w w':=
 ⟨h.os,h.tape,h.output,h.size,fun k hk=>h.block k (by omega) (hs k hk)⟩
theorem Only.at{S:Nat→Prop}{w w':World}(h:Only S w w'){b o:Nat}{v:Value}(hc:w.cell? ⟨b,o,none⟩=some v)(hs:¬S b):w'.cell? ⟨b,o,none⟩=some v:=by
 have hb:b<w.heap.size:=by
  unfold World.cell? at hc
  split at hc
  ·exact(Array.getElem?_eq_some_iff.1 (by assumption)).1
  ·simp at hc
 exact(World.cell?_of_block (w:=w) (a:=⟨b,o,none⟩) (h.block b hb hs)).trans hc
theorem Only.setCell{S:Nat→Prop}{a w:World}(h:Only S a w){p:Addr}(hp:S p.block)(u:Value):Only S a (w.setCell p u):=
 h.trans ⟨rfl,rfl,rfl,by simp[World.setCell],fun k hk hn=>Below.heap_setCell _ _ _ _ (fun e=>hn (e▸hp))⟩
theorem eD(w:World)(o:Obj):(w.alloc o).heap[w.heap.size]?=some o:=by show(w.heap.push o)[w.heap.size]?=_;simp
theorem qA{w:World}{p:Addr}{v:Value}(hc:w.cell? p=some v):p.block<w.heap.size:=by
 unfold World.cell? at hc
 split at hc
 ·exact(Array.getElem?_eq_some_iff.1 (by assumption)).1
 ·simp at hc
theorem aC{w:World}{b o:Nat}{v:Value}(hc:w.cell? ⟨b,o,none⟩=some v):b<w.heap.size:=by
 unfold World.cell? at hc
 split at hc
 ·exact(Array.getElem?_eq_some_iff.1 (by assumption)).1
 ·simp at hc
def RowAt(w:World)(b off:Nat)(X:List Value):Prop:=∀ j v,X[j]?=some v→w.cell? ⟨b,off+j,none⟩=some v
def Room(w:World)(b n:Nat):Prop:=∀ j,j<n→(w.cell? ⟨b,j,none⟩).isSome=true∧w.frozen? ⟨b,j,none⟩=false
theorem RowAt.only{S:Nat→Prop}{w w':World}{b off:Nat}{X:List Value}(h:RowAt w b off X)(ho:Only S w w')(hs:¬S b):RowAt w' b off X:=
 fun j v hv=>ho.at (h j v hv) hs
theorem RowAt.below{B:Nat}{w w':World}{b off:Nat}{X:List Value}(h:RowAt w b off X)(ho:Below B w w')(hs:b<B):RowAt w' b off X:=
 fun j v hv=>aA ho (h j v hv) hs
theorem Room.only{S:Nat→Prop}{w w':World}{b n:Nat}(h:Room w b n)(ho:Only S w w')(hs:¬S b):Room w' b n:=by
 intro j hj;obtain⟨h1,h2⟩:=h j hj;obtain⟨v,hv⟩:=Option.isSome_iff_exists.1 h1;have hb:=aC hv;refine⟨by rw[ho.at hv hs];rfl,?_⟩
 rw[World.frozen?_of_block (w:=w) (a:=⟨b,j,none⟩) (ho.block b hb hs)];exact h2
theorem Room.below{B:Nat}{w w':World}{b n:Nat}(h:Room w b n)(ho:Below B w w')(hs:b<B):Room w' b n:=
 fun j hj=>⟨by rw[ho.cell (p:=⟨b,j,none⟩) hs];exact(h j hj).1,by rw[ho.frozen (p:=⟨b,j,none⟩) hs];exact(h j hj).2⟩
theorem Room.setCell{w:World}{b n:Nat}(h:Room w b n)(p:Addr)(v:Value):Room (w.setCell p v) b n:=by
 intro j hj;obtain⟨h1,h2⟩:=h j hj;refine⟨?_,?_⟩
 ·by_cases hp:p=⟨b,j,none⟩
  ·subst hp;rw[World.cell?_setCell_same' _ _ _ h1];rfl
  ·rw[World.cell?_setCell_other _ _ _ _ hp];exact h1
 ·rw[World.frozen?_setCell];exact h2
theorem RowAt.setCell{w:World}{b off:Nat}{X:List Value}(h:RowAt w b off X)(p:Addr)(v:Value)(hp:∀ j,j<X.length→p≠⟨b,off+j,none⟩):RowAt (w.setCell p v) b off X:=by
 intro j u hu;have hj:j<X.length:=(List.getElem?_eq_some_iff.1 hu).1;rw[World.cell?_setCell_other _ _ _ _ (hp j hj)];exact h j u hu
theorem RowAt.snoc{w:World}{b off n:Nat}{X:List Value}(hn:n<X.length)(h:RowAt w b off (X.take n))(v:Value)(hX:X[n]?=some v)(hc:(w.cell? ⟨b,off+n,none⟩).isSome=true) :
  RowAt (w.setCell ⟨b,off+n,none⟩ v) b off (X.take (n+1)):=by
 intro j u hu
 by_cases hj:j=n
 ·subst hj;rw[List.getElem?_take,if_pos (by omega),hX]at hu
  cases hu;exact World.cell?_setCell_same' _ _ _ hc
 ·have hlt:j<n+1:=by
   have:=(List.getElem?_eq_some_iff.1 hu).1;simp at this;omega
  rw[World.cell?_setCell_other _ _ _ _ (by simp;try omega)]
  refine h j u ?_;rw[List.getElem?_take,if_pos (by omega)]at hu ⊢
  exact hu
theorem bL{P:Program}(w:World){ops:Array Oper}{rest:List Oper}{o:Oper}{a:Act}{Q:Exit→Act→World→Prop}
  (hg:o.guard=none) (l c:Operand) (t:TypeId) (hop:o.op=Op.makeSlice t l c)
  (e:TypeId) (z:Value) (size bytes:Nat) (h1:P.underlying t=some (.slice e)) (h2:(P.info? e).map (fun i=>(i.zero,i.size,i.bytes))=some (some z,size,bytes))
  (kl kc:IntKind) (L C:Int) (n:Nat) (hl:a.eval l=.int kl L) (hc:a.eval c=.int kc C) (hL:L=(n:Int)) (hC:C=(n:Int)) (b2:bytes*n≤281474976710656) (b3:n≤9223372036854775807)
  (hK:wpList P ops Q rest (a.put o.dst (.slice (some ⟨w.heap.size,0,none⟩) n n)) (w.alloc (.cells (madeCells z.cells (n*size)) e))) :
  wpList P ops Q (o::rest) a w:=by
 obtain⟨i,hi,hz,hsz,hby⟩:=info_parts h2;subst hby;refine wpList_plain hg fun K hK'=>?_;have hb':(i.bytes:Int)*(n:Int)≤281474976710656:=by
  have h:((i.bytes*n:Nat):Int)≤281474976710656:=by omega
  rwa [Int.natCast_mul]at h
 have hr:=run_make (P:=P) w t e i z h1 hi hz kl kc n n (by omega) (Int.le_refl _) hb' (by omega)
 simp only[Int.toNat_natCast]at hr;subst hL;subst hC;subst hsz;unfold Oper.wp;simp[execOp,hop,hl,hc,hr,Result.andThen];exact hK' _ _ hK
theorem uR(z:Value)(n j:Nat)(h:j<n):(madeCells #[z] n)[j]?=some z:=by
 simp[madeCells,h,Nat.mod_one]
theorem gL(w:World)(z:Array Value)(n:Nat)(e:TypeId):Room (w.alloc (.cells (madeCells z n) e)) w.heap.size n:=by
 intro j hj;rw[World.cell?_alloc_at _ _ _ _ rfl,World.frozen?_alloc_at _ _ _ _ rfl];refine⟨?_,rfl⟩;have:j<(madeCells z n).size:=by rw[size_madeCells];exact hj
 simp[this]
theorem mA(w:World)(z:Value)(n:Nat)(e:TypeId):RowAt (w.alloc (.cells (madeCells #[z] n) e)) w.heap.size 0 (List.replicate n z):=by
 intro j v hv;have hj:j<n:=by simpa using (List.getElem?_eq_some_iff.1 hv).1
 have:v=z:=by rw[List.getElem?_replicate,if_pos hj]at hv;exact(Option.some.inj hv).symm
 subst this;rw[World.cell?_alloc_at _ _ _ _ rfl,Nat.zero_add];exact uR v n j hj
theorem jK{P:Program}{w:World}{ops:Array Oper}{rest:List Oper}{o:Oper}{a:Act}{Q:Exit→Act→World→Prop}(hgd:o.guard=none)(d s:Operand)(dT sT:TypeId)
  (ho:o.op=.call {callee:=.builtin .copy,args:=#[d,s],argTypes:=#[dT,sT]}) (elem:TypeId) (hu:P.underlying dT=some (.slice elem)) (size:Nat) (hsz:(P.info? elem).map (·.size)=some size)
  (g dLen dCap:Nat) (ad:Addr) (sLen sCap:Nat) (hd:a.eval d=.slice (some ⟨g,0,none⟩) dLen dCap) (hs:a.eval s=.slice (some ad) sLen sCap) (hle:sLen≤dLen)
  (cur:Array Value) (t:TypeId) (hg:w.heap[g]?=some (.cells cur t (0,0))) (cs:List Value) (hn:cs.length=sLen*size)
  (hsrc:∀ j v,cs[j]?=some v→w.cell? (ad.add j)=some v) (hfit:cs.length≤cur.size) (h1:∀ v∈cs,v.oneCell'=true)
  (h:∀ w',Only (·=g) w w'→RowAt w' g 0 cs→Room w' g cur.size→w'.heap.size=w.heap.size→wpList P ops Q rest (a.put o.dst (goInt sLen)) w'):wpList P ops Q (o::rest) a w:=by
 refine wpList_plain hgd fun K hK=>?_;have hl:=run_loadCells_list (P:=P) w ad cs hsrc;have hst:=run_storeCells_at P g 0 t cs 0 cur w hg (by simpa using hfit) h1
 have hmin:Nat.min sLen dLen=sLen:=Nat.min_eq_left hle;obtain⟨i,hi,his⟩:=Option.map_eq_some_iff.1 hsz;subst his;have hrun:(Builtin.copy_ #[dT,sT] o.type #[.slice (some ⟨g,0,none⟩) dLen dCap,.slice (some ad) sLen sCap]).run P w=.ok (goInt sLen) (w.setRow g (cs++cur.toList.drop cs.length).toArray):=by
  simp at hst;simp[Builtin.copy_,run_underlying hu,Builtin.lenOf,Builtin.firstCells,sizeOf,typeInfo,hi,hmin,←hn,hl,hst]
 have hH:=setRow_heap w g cur (cs++cur.toList.drop cs.length).toArray t _ hg;unfold Oper.wp;simp[execOp,ho,resolve,invoke,builtin,hd,hs,hrun,Result.andThen];refine hK _ _ (h _ ⟨rfl,rfl,rfl,by simp[World.setRow],fun k hk hn=>setRow_other w g k _ hn⟩ ?_ ?_ (by simp[World.setRow]))
 ·intro j v hv;have hj:j<cs.length:=(List.getElem?_eq_some_iff.1 hv).1;simp[World.cell?,hH,List.getElem?_append,hj,←hv]
 ·intro j hj;have:j<(cs++cur.toList.drop cs.length).length:=by simp;omega
  simp only[World.cell?,World.frozen?,hH];simp;omega
theorem Tryz.info3:(Tryz.prog.info? 3).map (fun i=>(i.zero,i.size,i.bytes))=some (some (.int .i64 0),1,8):=by kernel_rfl
theorem Tryz.size3:(Tryz.prog.info? 3).map (·.size)=some 1:=by kernel_rfl
def ints(l:List Int):List Value:=l.map (Value.int .i64)
theorem Tryz.info59:(Tryz.prog.info? 59).map (fun i=>(i.zero,i.size,i.bytes))=some (some (.agg #[.int .i64 0,.int .i64 0,.int .i64 0,.int .i64 0]),4,32):=by kernel_rfl
theorem Tryz.size59:(Tryz.prog.info? 59).map (·.size)=some 4:=by kernel_rfl
def cP(x:Ins):List Value:=[.int .i64 x.op,.int .i64 x.a,.int .i64 x.b,.int .i64 x.c]
def aO(l:List Ins):List Value:=l.flatMap cP
theorem cL(l:List Ins):(aO l).length=l.length*4:=by
 induction l with
 | nil=>rfl
 | cons x l ih=>simp[aO,cP]at ih ⊢;omega
theorem lV:∀ (l:List Ins) (i r:Nat),r<4→(aO l)[i*4+r]?=l[i]?.bind fun x=>(cP x)[r]?
 | [],i,r,_=>by simp[aO]
 | x::l,0,r,h=>by
  have:r=0∨r=1∨r=2∨r=3:=by omega
  rcases this with rfl|rfl|rfl|rfl<;>simp[aO,cP]
 | x::l,i+1,r,h=>by
  have ih:=lV l i r h;have e:(i+1)*4+r=(i*4+r)+1+1+1+1:=by omega
  rw[e]
  simpa [aO,cP]using ih
theorem CodeAt.row{w:World}{b off:Nat}{l:List Ins}(h:CodeAt w b off l):RowAt w b off (aO l):=by
 intro j v hv;have e:j=(j / 4)*4+j % 4:=by omega
 rw[e,lV l _ _ (by omega)]at hv
 obtain⟨x,hx,hr⟩:=Option.bind_eq_some_iff.1 hv;obtain⟨h0,h1,h2,h3⟩:=h _ x hx;have:j % 4=0∨j % 4=1∨j % 4=2∨j % 4=3:=by omega
 rcases this with h|h|h|h<;>rw[h]at hr<;>simp[cP]at hr<;>subst hr
 ·rw[←h0];congr 2;omega
 ·rw[←h1];congr 2;omega
 ·rw[←h2];congr 2;omega
 ·rw[←h3];congr 2;omega
theorem RowAt.code{w:World}{b off:Nat}{l:List Ins}(h:RowAt w b off (aO l)):CodeAt w b off l:=by
 intro i x hx;have g:=fun r (hr:r<4) (v:Value) (hv:(cP x)[r]?=some v)=>h (i*4+r) v (by rw[lV l i r hr,hx];exact hv)
 exact⟨g 0 (by omega) _ rfl,by simpa [Nat.add_assoc]using g 1 (by omega) _ rfl,by simpa [Nat.add_assoc]using g 2 (by omega) _ rfl,by simpa [Nat.add_assoc]using g 3 (by omega) _ rfl⟩
def CodeFrom(w:World)(b off k:Nat)(l:List Ins):Prop:=
 ∀ i x,k≤i→l[i]?=some x→w.cell? ⟨b,off+i*4,none⟩=some (.int .i64 x.op)∧w.cell? ⟨b,off+i*4+1,none⟩=some (.int .i64 x.a) ∧
  w.cell? ⟨b,off+i*4+2,none⟩=some (.int .i64 x.b)∧w.cell? ⟨b,off+i*4+3,none⟩=some (.int .i64 x.c)
def set4(w:World)(b o:Nat)(x:Ins):World:=
 (((w.setCell ⟨b,o,none⟩ (.int .i64 x.op)).setCell ⟨b,o+1,none⟩ (.int .i64 x.a)).setCell ⟨b,o+2,none⟩ (.int .i64 x.b)).setCell ⟨b,o+3,none⟩ (.int .i64 x.c)
theorem rP(w:World)(b o:Nat)(x:Ins)(b' o':Nat)(h:b'≠b∨o'<o∨o+4≤o'):(set4 w b o x).cell? ⟨b',o',none⟩=w.cell? ⟨b',o',none⟩:=by
 unfold set4;rw[World.cell?_setCell_other _ _ _ _ (by simp;omega),World.cell?_setCell_other _ _ _ _ (by simp;omega),World.cell?_setCell_other _ _ _ _ (by simp;omega),World.cell?_setCell_other _ _ _ _ (by simp;omega)]
theorem Room.set4{w:World}{b n:Nat}(h:Room w b n)(b' o:Nat)(x:Ins):Room (set4 w b' o x) b n:=(((h.setCell _ _).setCell _ _).setCell _ _).setCell _ _
theorem Only.set4{S:Nat→Prop}{a w:World}(h:Only S a w){b:Nat}(hb:S b)(o:Nat)(x:Ins):Only S a (set4 w b o x):=(((h.setCell hb _).setCell hb _).setCell hb _).setCell hb _
theorem Below.set4{B:Nat}{a w:World}(h:Below B a w){b:Nat}(hb:B≤b)(o:Nat)(x:Ins):Below B a (set4 w b o x):=(((h.setCell hb _).setCell hb _).setCell hb _).setCell hb _
theorem aBv(w:World)(b o:Nat)(x:Ins):(set4 w b o x).heap.size=w.heap.size:=by simp[set4,World.setCell]
theorem mQ(w:World)(b o n:Nat)(x:Ins)(h:Room w b n)(ho:o+4≤n) :
  (set4 w b o x).cell? ⟨b,o,none⟩=some (.int .i64 x.op)∧(set4 w b o x).cell? ⟨b,o+1,none⟩=some (.int .i64 x.a) ∧
  (set4 w b o x).cell? ⟨b,o+2,none⟩=some (.int .i64 x.b)∧(set4 w b o x).cell? ⟨b,o+3,none⟩=some (.int .i64 x.c):=by
 refine⟨?_,?_,?_,?_⟩
 ·unfold set4;rw[World.cell?_setCell_other _ _ _ _ (by simp),World.cell?_setCell_other _ _ _ _ (by simp),World.cell?_setCell_other _ _ _ _ (by simp)]
  exact World.cell?_setCell_same' _ _ _ (h o (by omega)).1
 ·unfold set4;rw[World.cell?_setCell_other _ _ _ _ (by simp),World.cell?_setCell_other _ _ _ _ (by simp)]
  exact World.cell?_setCell_same' _ _ _ ((h.setCell _ _) (o+1) (by omega)).1
 ·unfold set4;rw[World.cell?_setCell_other _ _ _ _ (by simp)]
  exact World.cell?_setCell_same' _ _ _ (((h.setCell _ _).setCell _ _) (o+2) (by omega)).1
 ·unfold set4;exact World.cell?_setCell_same' _ _ _ ((((h.setCell _ _).setCell _ _).setCell _ _) (o+3) (by omega)).1
theorem CodeAt.snoc{w:World}{b n k:Nat}{L:List Ins}{x:Ins}(h:CodeAt w b 0 (L.take k))(hx:L[k]?=some x)(hr:Room w b n)(hn:k*4+4≤n):CodeAt (set4 w b (k*4) x) b 0 (L.take (k+1)):=by
 intro i y hy
 by_cases hi:i=k
 ·subst hi;rw[List.getElem?_take,if_pos (by omega),hx]at hy
  cases hy
  simpa using mQ w b (i*4) n x hr hn
 ·have hlt:i<k+1:=by
   have:=(List.getElem?_eq_some_iff.1 hy).1;simp at this;omega
  rw[List.getElem?_take,if_pos (by omega)]at hy
  obtain⟨h0,h1,h2,h3⟩:=h i y (by rw[List.getElem?_take,if_pos (by omega)];exact hy)
  refine⟨?_,?_,?_,?_⟩<;>(rw[rP _ _ _ _ _ _ (by omega)];assumption)
theorem CodeFrom.next{w:World}{b k:Nat}{L:List Ins}(h:CodeFrom w b 0 k L)(x:Ins):CodeFrom (set4 w b (k*4) x) b 0 (k+1) L:=by
 intro i y hi hy;obtain⟨h0,h1,h2,h3⟩:=h i y (by omega) hy
 refine⟨?_,?_,?_,?_⟩<;>(rw[rP _ _ _ _ _ _ (by omega)];assumption)
theorem Tryz.info60:(Tryz.prog.info? 60).map (fun i=>(i.zero,i.size,i.bytes))=some (some (.slice none 0 0),1,24):=by kernel_rfl
theorem CodeAt.setCell{w:World}{b off:Nat}{l:List Ins}(h:CodeAt w b off l)(p:Addr)(v:Value)(hp:p.block≠b):CodeAt (w.setCell p v) b off l:=by
 intro i x hx;obtain⟨h1,h2,h3,h4⟩:=h i x hx;refine⟨?_,?_,?_,?_⟩<;>(rw[World.cell?_setCell_other _ _ _ _ (by intro e;subst e;exact hp rfl)];assumption)
theorem CodeV.setCell{B:Nat}{w:World}{v:Value}{l:List Ins}(h:CodeV B w v l)(p:Addr)(u:Value)(hp:B≤p.block):CodeV B (w.setCell p u) v l:=by
 obtain⟨hl,h|⟨b,off,cap,rfl,hb,hc⟩|h⟩:=h
 ·exact⟨hl,.inl h⟩
 ·exact⟨hl,.inr (.inl ⟨b,off,cap,rfl,hb,hc.setCell _ _ (by omega)⟩)⟩
 ·exact⟨hl,.inr (.inr h)⟩
theorem CodeAt.only{S:Nat→Prop}{w w':World}{b off:Nat}{l:List Ins}(h:CodeAt w b off l)(ho:Only S w w')(hs:¬S b):CodeAt w' b off l:=by
 intro i x hx;obtain⟨h1,h2,h3,h4⟩:=h i x hx;exact⟨ho.at h1 hs,ho.at h2 hs,ho.at h3 hs,ho.at h4 hs⟩
def IntsIn(R:Nat→Prop)(w:World)(v:Value)(l:List Int):Prop:=
 l.length≤17592186044416∧((v=.slice none 0 0∧l=[])∨∃ b off cap,v=.slice (some ⟨b,off,none⟩) l.length cap∧R b∧RowAt w b off (ints l))
def CodeIn(R:Nat→Prop)(w:World)(v:Value)(l:List Ins):Prop:=
 l.length≤4398046511104∧((v=.slice none 0 0∧l=[])∨∃ b off cap,v=.slice (some ⟨b,off,none⟩) l.length cap∧R b∧CodeAt w b off l)
def KindsIn(R:Nat→Prop)(w:World)(v:Value)(ks:List (List Ins)):Prop:=
 ks.length≤5864062014805∧((v=.slice none 0 0∧ks=[])∨∃ b off cap,v=.slice (some ⟨b,off,none⟩) ks.length cap∧R b∧∀ (i:Nat) l,ks[i]?=some l→∃ v,w.cell? ⟨b,off+i,none⟩=some v∧CodeIn R w v l)
section
variable {R R' S : Nat → Prop} {w w' : World} {v : Value}
theorem IntsIn.mono{l:List Int}(h:IntsIn R w v l)(hR:∀ b,R b→R' b):IntsIn R' w v l:=by
 obtain⟨hl,h|⟨b,off,cap,rfl,hb,hc⟩⟩:=h
 ·exact⟨hl,.inl h⟩
 ·exact⟨hl,.inr ⟨b,off,cap,rfl,hR b hb,hc⟩⟩
theorem CodeIn.mono{l:List Ins}(h:CodeIn R w v l)(hR:∀ b,R b→R' b):CodeIn R' w v l:=by
 obtain⟨hl,h|⟨b,off,cap,rfl,hb,hc⟩⟩:=h
 ·exact⟨hl,.inl h⟩
 ·exact⟨hl,.inr ⟨b,off,cap,rfl,hR b hb,hc⟩⟩
theorem KindsIn.mono{ks:List (List Ins)}(h:KindsIn R w v ks)(hR:∀ b,R b→R' b):KindsIn R' w v ks:=by
 obtain⟨hl,h|⟨b,off,cap,rfl,hb,hc⟩⟩:=h
 ·exact⟨hl,.inl h⟩
 ·exact⟨hl,.inr ⟨b,off,cap,rfl,hR b hb,fun i l hl=>let ⟨v,h1,h2⟩:=hc i l hl;⟨v,h1,h2.mono hR⟩⟩⟩
theorem IntsIn.only{l:List Int}(h:IntsIn R w v l)(ho:Only S w w')(hR:∀ b,R b→¬S b):IntsIn R w' v l:=by
 obtain⟨hl,h|⟨b,off,cap,rfl,hb,hc⟩⟩:=h
 ·exact⟨hl,.inl h⟩
 ·exact⟨hl,.inr ⟨b,off,cap,rfl,hb,hc.only ho (hR b hb)⟩⟩
theorem CodeIn.only{l:List Ins}(h:CodeIn R w v l)(ho:Only S w w')(hR:∀ b,R b→¬S b):CodeIn R w' v l:=by
 obtain⟨hl,h|⟨b,off,cap,rfl,hb,hc⟩⟩:=h
 ·exact⟨hl,.inl h⟩
 ·exact⟨hl,.inr ⟨b,off,cap,rfl,hb,hc.only ho (hR b hb)⟩⟩
theorem KindsIn.only{ks:List (List Ins)}(h:KindsIn R w v ks)(ho:Only S w w')(hR:∀ b,R b→¬S b):KindsIn R w' v ks:=by
 obtain⟨hl,h|⟨b,off,cap,rfl,hb,hc⟩⟩:=h
 ·exact⟨hl,.inl h⟩
 ·exact⟨hl,.inr ⟨b,off,cap,rfl,hb,fun i l hl=>let ⟨v,h1,h2⟩:=hc i l hl;⟨v,ho.at h1 (hR b hb),h2.only ho hR⟩⟩⟩
theorem CodeIn.toV{B:Nat}{l:List Ins}(h:CodeIn R w v l)(hR:∀ b,R b→b<B):CodeV B w v l:=by
 obtain⟨hl,h|⟨b,off,cap,rfl,hb,hc⟩⟩:=h
 ·exact⟨hl,.inl h⟩
 ·exact⟨hl,.inr (.inl ⟨b,off,cap,rfl,hR b hb,hc⟩)⟩
theorem KindsIn.toV{B:Nat}{ks:List (List Ins)}(h:KindsIn R w v ks)(hR:∀ b,R b→b<B):KindsV B w v ks:=by
 obtain⟨hl,h|⟨b,off,cap,rfl,hb,hc⟩⟩:=h
 ·exact⟨hl,.inl h⟩
 ·exact⟨hl,.inr (.inl ⟨b,off,cap,rfl,hR b hb,fun i l hl=>let ⟨v,h1,h2⟩:=hc i l hl;⟨v,h1,h2.toV hR⟩⟩)⟩
theorem CodeIn.form{l:List Ins}(h:CodeIn R w v l):∃ sa sc,v=.slice sa l.length sc:=by
 obtain⟨_,⟨rfl,rfl⟩|⟨b,off,cap,rfl,_,_⟩⟩:=h
 ·exact⟨_,_,rfl⟩
 ·exact⟨_,_,rfl⟩
theorem KindsIn.form{ks:List (List Ins)}(h:KindsIn R w v ks):∃ sa sc,v=.slice sa ks.length sc:=by
 obtain⟨_,⟨rfl,rfl⟩|⟨b,off,cap,rfl,_,_⟩⟩:=h
 ·exact⟨_,_,rfl⟩
 ·exact⟨_,_,rfl⟩
theorem IntsIn.form{l:List Int}(h:IntsIn R w v l):∃ sa sc,v=.slice sa l.length sc:=by
 obtain⟨_,⟨rfl,rfl⟩|⟨b,off,cap,rfl,_,_⟩⟩:=h
 ·exact⟨_,_,rfl⟩
 ·exact⟨_,_,rfl⟩
end
def eO(w:World)(sv:Value)(m:Nat)(news:List Value):Prop:=
 (sv=.slice none 0 0∧m=0∧news=[])∨(∃ b off c,sv=.slice (some ⟨b,off,none⟩) m c∧RowAt w b off news)∨∃ a c,sv=.slice (some a) m c∧news=[]
theorem kC{P:Program}{w:World}(base:Nat)(t ty e:TypeId)(i:TypeInfo)(z:Value)(ht:P.underlying t=some (.slice e))(hi:P.info? e=some i)(hz:i.zero=some z)
  (v:Value) (n:Nat) (xs:List Value) (hown:w.ownsRow base e i.size v n xs)
  (a:Addr) (m c:Nat) (news:List Value) (hl:news.length=m*i.size) (hnews:∀ j u,news[j]?=some u→w.cell? (a.add j)=some u) (h1:∀ u∈news,u.oneCell'=true)
  (h63:n+m≤9223372036854775807) (hbytes:(n+m)*i.bytes≤140737488355328) (v':Value) (w':World)
  (hr:(Builtin.append_ #[t,t] ty #[v,.slice (some a) m c]).run P w=.ok v' w'):v'.ownBlock=v.ownBlock∨v'.ownBlock=some w.heap.size:=by
 have hcells:=fun g=>hown.cells (g:=g);obtain⟨hx,⟨rfl,rfl⟩|⟨g,cap,cur,rfl,hbg,hg,hnc,hcm,hcs,htake⟩⟩:=hown
 ·by_cases hm:m=0
  ·subst hm;have hn:news=[]:=List.eq_nil_of_length_eq_zero (by simpa using hl)
   subst hn;have h0:(Builtin.append_ #[t,t] ty #[.slice none 0 0,.slice (some a) 0 c]).run P w=.ok (.slice none 0 0) w:=by
    simp[Builtin.append_,run_underlying ht,sizeOf,typeInfo,hi,Builtin.lenOf,Builtin.firstCells,loadCells,loadCellsFrom]
   rw[h0]at hr;cases hr;exact .inl rfl
  ·have h0:=run_append_nil (P:=P) w t ty e i z ht hi hz a m c news hl hnews (by omega) (by omega) (by have hb:=hbytes;simp only[Nat.zero_add]at hb;omega)
   rw[h0]at hr;cases hr;exact .inr rfl
 ·by_cases hroom:n+m≤cap
  ·have hfit:n*i.size+news.length≤cur.size:=by rw[hl,hcs,←Nat.add_mul];exact Nat.mul_le_mul_right _ hroom
   have h0:=run_append_room (P:=P) w t ty e i ht hi g n cap cur hg a m c news hl hnews h1 hroom hfit;rw[h0]at hr;cases hr;exact .inl rfl
  ·have h0:=run_append_grow (P:=P) w t ty e i z ht hi hz ⟨g,0,none⟩ n cap xs hx (hcells g rfl) a m c news hl hnews (by omega) (by omega) (growslice_fits (by omega) hbytes)
   rw[h0]at hr;cases hr;exact .inr rfl
theorem aD{P:Program}{w:World}{ops:Array Oper}{rest:List Oper}{o:Oper}{a:Act}{Q:Exit→Act→World→Prop}(hgd:o.guard=none)(s x:Operand)(t:TypeId)
  (ho:o.op=.call {callee:=.builtin .append,args:=#[s,x],argTypes:=#[t,t]})
  (base:Nat) (e:TypeId) (z:Value) (size bytes:Nat) (ht:P.underlying t=some (.slice e)) (hinfo:(P.info? e).map (fun i=>(i.zero,i.size,i.bytes))=some (some z,size,bytes))
  (hzs:z.cells.size=size) (hsz:0<size)
  (v:Value) (n:Nat) (xs:List Value) (hs:a.eval s=v) (hown:w.ownsRow base e size v n xs)
  (sv:Value) (m:Nat) (news:List Value) (hx:a.eval x=sv) (hsrc:eO w sv m news) (hl:news.length=m*size) (h1:∀ u∈news,u.oneCell'=true)
  (hbytes:(n+m)*bytes≤140737488355328) (h63:n+m≤9223372036854775807) (hbase:base≤w.heap.size)
  (h:∀ v' w',Hid (w'.ownsRow base e size v' (n+m) (xs++news))→Hid (w.grownBy w' v.ownBlock)→Hid (v'.ownBlock=v.ownBlock∨v'.ownBlock=some w.heap.size)→wpList P ops Q rest (a.put o.dst v') w'):wpList P ops Q (o::rest) a w:=by
 obtain⟨i,hi,hz,hsz',hby⟩:=info_parts hinfo;have hsrc':(sv=.slice none 0 0∧m=0∧news=[])∨∃ ad c,sv=.slice (some ad) m c∧∀ j u,news[j]?=some u→w.cell? (Addr.add ad j)=some u:=by
  rcases hsrc with h|⟨b,off,c,h,hrow⟩|⟨ad,c,h,h0⟩
  ·exact .inl h
  ·exact .inr ⟨⟨b,off,none⟩,c,h,fun j u hu=>by rw[Addr.add_lit];exact hrow j u hu⟩
  ·exact .inr ⟨ad,c,h,fun j u hu=>by rw[h0]at hu;simp at hu⟩
 rcases hsrc' with⟨rfl,rfl,rfl⟩|⟨ad,c,rfl,hnews⟩
 ·refine wpList_append_own_none hgd s x t ho base e i size ht hi v n xs hs hown hx ?_;refine h v w (by show World.ownsRow _ _ _ _ _ _ _;simpa using hown) ⟨rfl,rfl,rfl,Nat.le_refl _,fun _ _ _=>rfl⟩ ?_
  exact .inl rfl
 ·subst hsz';subst hby;obtain⟨v',w',hr,h2,h3,h4⟩:=run_append_own (P:=P) w base t o.type e i z i.size i.bytes ht hi hz rfl rfl hzs hsz v n xs hown ad m c news hl hnews h1 (by simp only[maxLen];omega) hbytes hbase
  have h5:=kC base t o.type e i z ht hi hz v n xs hown ad m c news hl hnews h1 h63 hbytes v' w' hr;refine wpList_plain hgd fun K hK=>?_;unfold Oper.wp;simp[execOp,ho,resolve,invoke,builtin,hs,hx,hr,Result.andThen];exact hK _ _ (h v' w' h2 h3 h5)
theorem oB(l:List Int):∀ u∈ints l,u.oneCell'=true:=by
 intro v hv;simp[ints]at hv;obtain⟨x,_,rfl⟩:=hv;rfl
theorem dH(l:List Ins):∀ u∈aO l,u.oneCell'=true:=by
 intro v hv;simp[aO,cP]at hv;obtain⟨x,_,rfl|rfl|rfl|rfl⟩:=hv<;>rfl
theorem bK{w:World}{base:Nat}{e:TypeId}{size:Nat}{v:Value}{n:Nat}{xs:List Value}(h:w.ownsRow base e size v n xs) :
  (v=.slice none 0 0∧n=0∧xs=[])∨∃ g cap,v=.slice (some ⟨g,0,none⟩) n cap∧base≤g∧g<w.heap.size∧RowAt w g 0 xs:=by
 obtain⟨hx,⟨rfl,rfl⟩|⟨g,cap,cur,rfl,hb,hg,rest⟩⟩:=h
 ·exact .inl ⟨rfl,rfl,List.eq_nil_of_length_eq_zero (by simpa using hx)⟩
 ·refine .inr ⟨g,cap,rfl,hb,(Array.getElem?_eq_some_iff.1 hg).1,?_⟩;have hown:w.ownsRow base e size (.slice (some ⟨g,0,none⟩) n cap) n xs:=⟨hx,.inr ⟨g,cap,cur,rfl,hb,hg,rest⟩⟩;intro j u hu;have:=hown.cells (g:=g) rfl j u hu
  rwa [Addr.add_lit]at this
theorem uY{w:World}{base:Nat}{e:TypeId}{v:Value}{l:List Ins}(h:w.ownsRow base e 4 v l.length (aO l))(hl:l.length≤4398046511104) :
  CodeIn (fun b=>base≤b∧b<w.heap.size) w v l:=by
 rcases bK h with⟨rfl,h0,_⟩|⟨g,cap,rfl,h1,h2,h3⟩
 ·exact⟨hl,.inl ⟨rfl,List.eq_nil_of_length_eq_zero h0⟩⟩
 ·exact⟨hl,.inr ⟨g,0,cap,rfl,⟨h1,h2⟩,h3.code⟩⟩
theorem oT{w:World}{base:Nat}{e:TypeId}{v:Value}{l:List Int}(h:w.ownsRow base e 1 v l.length (ints l))(hl:l.length≤17592186044416) :
  IntsIn (fun b=>base≤b∧b<w.heap.size) w v l:=by
 rcases bK h with⟨rfl,h0,_⟩|⟨g,cap,rfl,h1,h2,h3⟩
 ·exact⟨hl,.inl ⟨rfl,List.eq_nil_of_length_eq_zero h0⟩⟩
 ·exact⟨hl,.inr ⟨g,0,cap,rfl,⟨h1,h2⟩,h3⟩⟩
end Go.Proofs.YtndlmgocldckfaaGreat
