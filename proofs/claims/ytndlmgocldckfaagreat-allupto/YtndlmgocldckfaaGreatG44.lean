import Derived.Test.YtndlmgocldckfaaGreatG04
import Derived.ProofKit
import Derived.Deep.Slices
import Derived.SizedLaws
import Derived.Lib.SmallJoins
import Derived.OpenShut
import Derived.ChangeOld
import Derived.Test.YtndlmgocldckfaaGreatG40
import Derived.Test.YtndlmgocldckfaaGreatG42
import Derived.Test.YtndlmgocldckfaaGreatRows
import Derived.Test.YtndlmgocldckfaaGreatG43
namespace Go.Proofs.YtndlmgocldckfaaGreat
open Go.ChangeShapes Go.WideShapes Go.ChangeAt Go.RowKit Go.Deep Go.Joins
set_option linter.unusedVariables false
set_option linter.unusedSimpArgs false
set_option maxRecDepth 100000
set_option maxHeartbeats 4000000
theorem Tryz.cellsI:Tryz.prog.cellsOf 3=1:=by kernel_rfl
theorem Tryz.cellsC:Tryz.prog.cellsOf 59=4:=by kernel_rfl
theorem Tryz.cellsK:Tryz.prog.cellsOf 60=1:=by kernel_rfl
theorem Tryz.cellsKs:Tryz.prog.cellsOf 36=1:=by kernel_rfl
theorem Tryz.cellsIs:Tryz.prog.cellsOf 24=1:=by kernel_rfl
theorem Tryz.cellsRs:Tryz.prog.cellsOf 39=1:=by kernel_rfl
theorem Tryz.cellsS:Tryz.prog.cellsOf 9=1:=by kernel_rfl
theorem Tryz.cellsM:Tryz.prog.cellsOf 38=2:=by kernel_rfl
theorem Tryz.cellsO:Tryz.prog.cellsOf 41=11:=by kernel_rfl
theorem Tryz.bytesI:Tryz.prog.bytesOf 3=8:=by kernel_rfl
theorem Tryz.bytesC:Tryz.prog.bytesOf 59=32:=by kernel_rfl
theorem Tryz.bytesK:Tryz.prog.bytesOf 60=24:=by kernel_rfl
theorem Tryz.bytesO:Tryz.prog.bytesOf 41=160:=by kernel_rfl
section
variable {H : Type} {enc : TypeId × Value → H} {w : World} {spare : Nat → Bool} {held : Bool}
def WOK(t:TypeId)(d:DataW H):Prop:=∀ n∈d.weights Tryz.prog t,n≤reachBytes
theorem mD{e:TypeId}:∀ {ds:List (DataW H)} {d:DataW H},d∈ds→∀ n∈d.weights Tryz.prog e,n∈DataW.weightsAll Tryz.prog e ds
 | x::ds,d,h,n,hn=>by
  simp only[DataW.weightsAll,List.mem_append];rcases List.mem_cons.1 h with rfl|h
  ·exact .inl hn
  ·exact .inr (mD h n hn)
theorem WOK.slice{t e:TypeId}{els sp:List (DataW H)}(h:WOK t (.slice els sp))(hu:Tryz.prog.underlying t=some (.slice e)) :
  (els.length+sp.length)*Tryz.prog.bytesOf e≤reachBytes∧∀ d∈els,WOK e d:=by
 have hW:(DataW.slice els sp).weights Tryz.prog t=(els.length+sp.length)*Tryz.prog.bytesOf e::(DataW.weightsAll Tryz.prog e els++DataW.weightsAll Tryz.prog e sp):=by simp only[DataW.weights,hu]
 unfold WOK at h;rw[hW]at h;refine⟨h _ (List.mem_cons_self ..),fun d hd n hn=>h n (List.mem_cons_of_mem _ (List.mem_append.2 (.inl (mD hd n hn))))⟩
theorem aAf{n:Nat}{cs:List Value}{x:DataW H×List MemPlace}(h:DataW.trod enc Tryz.prog w 0 spare held n 59 cs=some x):∃ i:Ins,cs=cP i:=by
 obtain⟨y0,y1,y2,y3,k,rfl,hl,h0,h1,h2,h3⟩:=trod_struct4 Tryz.underlying59 h;rw[Tryz.cellsC]at hl
 match cs,hl with
 | [c0,c1,c2,c3],_=>
  simp only[Tryz.cellsI]at h0 h1 h2 h3;obtain⟨n0,e0,_,_⟩:=DataW.trod_int Tryz.underlying3 h0;obtain⟨n1,e1,_,_⟩:=DataW.trod_int Tryz.underlying3 h1;obtain⟨n2,e2,_,_⟩:=DataW.trod_int Tryz.underlying3 h2;obtain⟨n3,e3,_,_⟩:=DataW.trod_int Tryz.underlying3 h3;simp at e0 e1 e2 e3;subst e0 e1 e2 e3;exact⟨⟨n0,n1,n2,n3⟩,rfl⟩
theorem aCj{n:Nat}{v:Value}{x:DataW H×List MemPlace}(h:DataW.trod enc Tryz.prog w 0 spare held n 60 [v]=some x)(hw:WOK 60 x.1):∃ l,CodeV w.heap.size w v l:=by
 rcases open_slice Tryz.underlying60 h with⟨hcs,_⟩|⟨a,len,cap,m,k,D,Pl,hcs,_,hlc,hcm,hm,rfl,hel⟩
 ·simp at hcs;subst hcs;exact⟨[],by simp,.inl ⟨rfl,rfl⟩⟩
 ·simp at hcs;subst hcs;obtain⟨hb,_⟩:=hw.slice Tryz.underlying60;rw[Tryz.bytesC]at hb;unfold reachBytes at hb;simp only[List.length_map,List.length_range]at hb;have hml:len≤m:=by rw[hm];split<;>omega
  rw[Tryz.cellsC]at hel
  by_cases h0:len=0
  ·subst h0;exact⟨[],by simp,.inr (.inr ⟨a,cap,rfl,rfl⟩)⟩
  obtain⟨f,hf⟩:=@choose_lt Ins ⟨⟨0,0,0,0⟩⟩ len (fun i y=>w.cells? 0 (a.add (i*4)) 4=some (cP y)) (fun i hi=>by
   obtain⟨cs',hc,ht⟩:=hel i (by omega)
   obtain⟨y,rfl⟩:=aAf ht;exact⟨y,hc⟩)
  obtain⟨b,off,spot⟩:=a;have hs:spot=none:=by
   have:=(World.cells?_some (hf 0 (by omega))).2.2 0 (by omega)
   simp[Addr.add]at this;exact World.cell?_spot this
  subst hs;have hcell:∀ i,i<len→∀ r v,(cP (f i))[r]?=some v→r<4→w.cell? ⟨b,off+i*4+r,none⟩=some v:=by
   intro i hi r v hv hr;have:=(World.cells?_some (hf i hi)).2.2 r hr;rw[hv,Addr.add_lit,Addr.add_lit]at this;exact this
  refine⟨(List.range len).map f,by simp;omega,.inr (.inl ⟨b,off,cap,by simp,?_,?_⟩)⟩
  ·exact aC (hcell 0 (by omega) 0 _ rfl (by omega))
  ·intro i y hy;have hi:i<len:=by simpa using (List.getElem?_eq_some_iff.1 hy).1
   have:y=f i:=by simpa [hi]using hy.symm
   subst this;exact⟨hcell i hi 0 _ rfl (by omega),hcell i hi 1 _ rfl (by omega),hcell i hi 2 _ rfl (by omega),hcell i hi 3 _ rfl (by omega)⟩
theorem aAg{n:Nat}{v:Value}{x:DataW H×List MemPlace}(h:DataW.trod enc Tryz.prog w 0 spare held n 36 [v]=some x)(hw:WOK 36 x.1):∃ ks,KindsV w.heap.size w v ks:=by
 rcases open_slice Tryz.underlying36 h with⟨hcs,_⟩|⟨a,len,cap,m,k,D,Pl,hcs,_,hlc,hcm,hm,rfl,hel⟩
 ·simp at hcs;subst hcs;exact⟨[],by simp,.inl ⟨rfl,rfl⟩⟩
 ·simp at hcs;subst hcs;obtain⟨hb,hwe⟩:=hw.slice Tryz.underlying36;rw[Tryz.bytesK]at hb;unfold reachBytes at hb;simp only[List.length_map,List.length_range]at hb;have hml:len≤m:=by rw[hm];split<;>omega
  rw[Tryz.cellsK]at hel
  by_cases h0:len=0
  ·subst h0;exact⟨[],by simp,.inr (.inr ⟨a,cap,rfl,rfl⟩)⟩
  obtain⟨f,hf⟩:=@choose_lt (List Ins) ⟨[]⟩ len (fun i y=>∃ u,w.cell? (a.add i)=some u∧CodeV w.heap.size w u y) (fun i hi=>by
   obtain⟨cs',hc,ht⟩:=hel i (by omega)
   rw[Nat.mul_one]at hc;obtain⟨_,hl1,hg⟩:=World.cells?_some hc
   match cs',hl1 with
   | [u],_=>
    obtain⟨l,hl⟩:=aCj ht (hwe (D i) (by simp;exact⟨i,hi,rfl⟩))
    exact⟨l,u,by simpa [Addr.add]using hg 0 (by omega),hl⟩)
  obtain⟨b,off,spot⟩:=a;have hs:spot=none:=by
   obtain⟨u,hu,_⟩:=hf 0 (by omega)
   simp[Addr.add]at hu;exact World.cell?_spot hu
  subst hs;refine⟨(List.range len).map f,by simp;omega,.inr (.inl ⟨b,off,cap,by simp,?_,?_⟩)⟩
  ·obtain⟨u,hu,_⟩:=hf 0 (by omega)
   rw[Addr.add_lit]at hu;exact aC hu
  ·intro i y hy;have hi:i<len:=by simpa using (List.getElem?_eq_some_iff.1 hy).1
   have:y=f i:=by simpa [hi]using hy.symm
   subst this;obtain⟨u,hu,hc⟩:=hf i hi;rw[Addr.add_lit]at hu;exact⟨u,hu,hc⟩
theorem vQ{n:Nat}{v:Value}{x:DataW H×List MemPlace}(h:DataW.trod enc Tryz.prog w 0 spare held n 24 [v]=some x)(hw:WOK 24 x.1):∃ l,IntsX w.heap.size w v l:=by
 rcases open_slice Tryz.underlying24 h with⟨hcs,_⟩|⟨a,len,cap,m,k,D,Pl,hcs,_,hlc,hcm,hm,rfl,hel⟩
 ·simp at hcs;subst hcs;exact⟨[],.inl ⟨by simp,.inl ⟨rfl,rfl⟩⟩⟩
 ·simp at hcs;subst hcs;obtain⟨hb,hwe⟩:=hw.slice Tryz.underlying24;rw[Tryz.bytesI]at hb;unfold reachBytes at hb;simp only[List.length_map,List.length_range]at hb;have hml:len≤m:=by rw[hm];split<;>omega
  rw[Tryz.cellsI]at hel
  by_cases h0:len=0
  ·subst h0;exact⟨[],.inr ⟨a,cap,rfl,rfl⟩⟩
  obtain⟨f,hf⟩:=@choose_lt Int ⟨0⟩ len (fun i y=>w.cell? (a.add i)=some (.int .i64 y)) (fun i hi=>by
   obtain⟨cs',hc,ht⟩:=hel i (by omega)
   rw[Nat.mul_one]at hc;obtain⟨y,rfl,_,_⟩:=DataW.trod_int Tryz.underlying3 ht;exact⟨y,cell_of_cells?_one hc⟩)
  obtain⟨b,off,spot⟩:=a;have hs:spot=none:=by
   have hu:=hf 0 (by omega)
   simp[Addr.add]at hu;exact World.cell?_spot hu
  subst hs;have hrow:RowAt w b off (ints ((List.range len).map f)):=by
   intro j u hu;have hj:j<len:=by simpa [ints]using (List.getElem?_eq_some_iff.1 hu).1
   have:u=.int .i64 (f j):=by simpa [ints,hj]using hu.symm
   subst this;have:=hf j hj;rw[Addr.add_lit]at this;exact this
  refine⟨(List.range len).map f,.inl ⟨by simp;omega,.inr ⟨b,off,cap,by simp,?_,hrow⟩⟩⟩
  have:=hf 0 (by omega)
  rw[Addr.add_lit]at this;exact aC this
end
section
variable {H : Type} {enc : TypeId × Value → H} {w : World} {spare : Nat → Bool} {held : Bool}
theorem IntsX.one{B:Nat}{v:Value}{l:List Int}(h:IntsX B w v l):v.oneCell'=true:=by
 obtain⟨a,c,rfl⟩:=h.form
 rfl
theorem KindsV.one{B:Nat}{v:Value}{ks:List (List Ins)}(h:KindsV B w v ks):v.oneCell'=true:=by
 obtain⟨_,⟨rfl,_⟩|⟨b,off,cap,rfl,_⟩|⟨a,c,rfl,_⟩⟩:=h<;>rfl
theorem fW{t:TypeId}{fs:Array Field}{ds:List (DataW H)}(hu:Tryz.prog.underlying t=some (.struct fs))(h:WOK t (.agg ds)){j:Nat}{f:Field}{d:DataW H}(hf:fs[j]?=some f)(hd:ds[j]?=some d):WOK f.type d:=by
 intro n hn;refine h n ?_;have hW:(DataW.agg ds).weights Tryz.prog t=DataW.weightsEach Tryz.prog (fs.toList.map (·.type)) ds:=by simp only[DataW.weights,hu]
 rw[hW];exact DataW.weights_mem_each (by simp[hf]) hd n hn
theorem sQ{n:Nat}{v:Value}{x:DataW H×List MemPlace}(h:DataW.trod enc Tryz.prog w 0 spare held n 39 [v]=some x):∃ a n c,v=.slice a n c:=by
 rcases open_slice Tryz.underlying39 h with⟨hcs,_⟩|⟨a,len,cap,m,k,D,Pl,hcs,_⟩
 ·simp at hcs;exact⟨_,_,_,hcs⟩
 ·simp at hcs;exact⟨_,_,_,hcs⟩
theorem aFi{n:Nat}{cs:List Value}{x:DataW H×List MemPlace}(h:DataW.trod enc Tryz.prog w 0 spare held n 41 cs=some x)(hw:WOK 41 x.1) :
  ∃ o:OpD,cs=dJ o∧OpOK w.heap.size w o:=by
 obtain⟨xs,k,_,rfl,hl,hxl,hf⟩:=DataW.trod_struct Tryz.underlying41 h;rw[Tryz.cellsO]at hl
 match xs,hxl with
 | [y0,y1,y2,y3,y4,y5,y6,y7,y8,y9],_=>
  match cs,hl with
  | [c0,c1,c2,c3,c4,c5,c6,c7,c8,c9,c10],_=>
   have f0:=hf 0 _ rfl;have f1:=hf 1 _ rfl;have f2:=hf 2 _ rfl;have f3:=hf 3 _ rfl;have f4:=hf 4 _ rfl;have f5:=hf 5 _ rfl;have f6:=hf 6 _ rfl;have f7:=hf 7 _ rfl;have f8:=hf 8 _ rfl;have f9:=hf 9 _ rfl;simp[Tryz.cellsI,Tryz.cellsM,Tryz.cellsIs,Tryz.cellsRs,Tryz.cellsS]at f0 f1 f2 f3 f4 f5 f6 f7 f8 f9;clear hf;have w5:WOK 38 y5.1:=fW Tryz.underlying41 hw (j:=5) rfl rfl;have w6:WOK 24 y6.1:=fW Tryz.underlying41 hw (j:=6) rfl rfl;obtain⟨n0,e0,_,b0⟩:=DataW.trod_int Tryz.underlying3 f0;obtain⟨n1,e1,_,b1⟩:=DataW.trod_int Tryz.underlying3 f1;obtain⟨n2,e2,_,b2⟩:=DataW.trod_int Tryz.underlying3 f2;obtain⟨n3,e3,_,b3⟩:=DataW.trod_int Tryz.underlying3 f3;obtain⟨n4,e4,_,b4⟩:=DataW.trod_int Tryz.underlying3 f4;obtain⟨z0,z1,km,hz,hzl,g0,g1⟩:=trod_struct2 Tryz.underlying38 f5;simp[Tryz.cellsI,Tryz.cellsKs]at g0 g1;rw[hz]at w5;have wk:WOK 36 z1.1:=fW Tryz.underlying38 w5 (j:=1) rfl rfl
   obtain⟨n5,e5,_,b5⟩:=DataW.trod_int Tryz.underlying3 g0;obtain⟨ks,hks⟩:=aAg g1 wk;obtain⟨ds,hds⟩:=vQ f6 w6;obtain⟨s,es,_,_⟩:=DataW.trod_string Tryz.underlying9 f9;simp at e0 e1 e2 e3 e4 e5 es;subst e0 e1 e2 e3 e4 e5 es;have:=bounds_i64 b1;exact⟨⟨n0,n1,n2,n3,n4,n5,c6,c7,c8,c9,.string s,ks,ds⟩,rfl,hks,hds,this.1,this.2,sQ f7,sQ f8,⟨s,rfl⟩⟩
theorem yC{B:Nat}{o:OpD}(h:OpOK B w o):∀ u∈dJ o,u.oneCell'=true:=by
 obtain⟨hk,hd,_,_,⟨_,_,_,hr⟩,⟨_,_,_,hq⟩,⟨_,hs⟩⟩:=h;intro u hu;simp only[dJ,List.mem_cons,List.not_mem_nil,or_false]at hu;rcases hu with rfl|rfl|rfl|rfl|rfl|rfl|rfl|rfl|rfl|rfl|rfl
 ·rfl
 ·rfl
 ·rfl
 ·rfl
 ·rfl
 ·rfl
 ·exact hk.one
 ·exact hd.one
 ·rw[hr];rfl
 ·rw[hq];rfl
 ·rw[hs];rfl
theorem aE1(f:Nat→OpD):∀ n:Nat,∀ (i r:Nat) (v:Value),r<11→(bP ((List.range n).map f))[i*11+r]?=some v→i<n∧(dJ (f i))[r]?=some v:=by
 intro n i r v hr hv;rw[nQ _ _ _ hr]at hv
 by_cases hi:i<n
 ·simp[hi]at hv;exact⟨hi,hv⟩
 ·rw[List.getElem?_eq_none (by simp;omega)]at hv;cases hv
end
section
variable {H : Type} {enc : TypeId × Value → H} {w : World} {spare : Nat → Bool} {held : Bool}
theorem aFk(d:DataW H):1≤Rows.uptoBulk d:=by
 cases d with
 | lit l=>cases l<;>simp[Rows.uptoBulk]
 | nil=>simp[Rows.uptoBulk]
 | ptr d=>simp[Rows.uptoBulk]
 | slice elems spare=>simp[Rows.uptoBulk]
 | agg parts=>simp[Rows.uptoBulk]
 | iface t d=>simp[Rows.uptoBulk]
 | map entries=>simp[Rows.uptoBulk]
 | held h=>simp[Rows.uptoBulk]
theorem aBa(l:List (DataW H)):l.length≤Rows.uptoBulkAll l:=by
 induction l with
 | nil=>simp[Rows.uptoBulkAll]
 | cons x r ih=>have:=aFk x;simp only[Rows.uptoBulkAll,List.length_cons];omega
theorem rG{l:List (DataW H)}{d:DataW H}(h:d∈l):Rows.uptoBulk d≤Rows.uptoBulkAll l:=by
 induction l with
 | nil=>simp at h
 | cons x r ih=>
  simp only[Rows.uptoBulkAll];rcases List.mem_cons.1 h with rfl|h
  ·omega
  ·have:=ih h;omega
theorem aE8{n:Nat}{o:OpD}{x:DataW H×List MemPlace}(h:DataW.trod enc Tryz.prog w 0 spare held n 41 (dJ o)=some x)(hb:Rows.uptoBulk x.1≤1048576)(B:Nat):pG B w o:=by
 obtain⟨xs,k,_,rfl,hl,hxl,hf⟩:=DataW.trod_struct Tryz.underlying41 h
 match xs,hxl with
 | [y0,y1,y2,y3,y4,y5,y6,y7,y8,y9],_=>
  have f9:=hf 9 _ rfl;simp[Tryz.cellsI,Tryz.cellsM,Tryz.cellsIs,Tryz.cellsRs,Tryz.cellsS,dJ]at f9;obtain⟨s,es,hy,_⟩:=DataW.trod_string Tryz.underlying9 f9;simp at es;refine⟨s,es,?_⟩;have hm:Rows.uptoBulk y9.1≤Rows.uptoBulkAll ([y0,y1,y2,y3,y4,y5,y6,y7,y8,y9].map (·.1)):=rG (by simp)
  simp only[Rows.uptoBulk]at hb;have h9:Rows.uptoBulk y9.1=s.data.toList.length+1:=by rw[hy];rfl
  have hs:s.data.toList.length=s.size:=by rw[Array.length_toList];rfl
  simp only[List.map_cons,List.map_nil]at hm hb;omega
end
theorem Tryz.cellsR:Tryz.prog.cellsOf 46=5:=by kernel_rfl
section
variable {H : Type} {enc : TypeId × Value → H} {w : World} {spare : Nat → Bool} {held : Bool}
def aG9(r:Rec)(v:Value):List Value:=[.int .i64 r.e.number,.int .i64 r.e.time,.int .i64 r.e.kind,.int .i64 r.e.entity,v]
theorem yK{n:Nat}{cs:List Value}{x:DataW H×List MemPlace}(h:DataW.trod enc Tryz.prog w 0 spare held n 46 cs=some x)(hw:WOK 46 x.1) :
  ∃ r v,cs=aG9 r v∧IntsX w.heap.size w v r.told:=by
 obtain⟨xs,k,_,rfl,hl,hxl,hf⟩:=DataW.trod_struct Tryz.underlying46 h;rw[Tryz.cellsR]at hl
 match xs,hxl with
 | [y0,y1,y2,y3,y4],_=>
  match cs,hl with
  | [c0,c1,c2,c3,c4],_=>
   have f0:=hf 0 _ rfl;have f1:=hf 1 _ rfl;have f2:=hf 2 _ rfl;have f3:=hf 3 _ rfl;have f4:=hf 4 _ rfl;simp[Tryz.cellsI,Tryz.cellsIs]at f0 f1 f2 f3 f4;clear hf;have w4:WOK 24 y4.1:=fW Tryz.underlying46 hw (j:=4) rfl rfl;obtain⟨n0,e0,_,_⟩:=DataW.trod_int Tryz.underlying3 f0;obtain⟨n1,e1,_,_⟩:=DataW.trod_int Tryz.underlying3 f1;obtain⟨n2,e2,_,_⟩:=DataW.trod_int Tryz.underlying3 f2;obtain⟨n3,e3,_,_⟩:=DataW.trod_int Tryz.underlying3 f3;obtain⟨tl,ht⟩:=vQ f4 w4;simp at e0 e1 e2 e3;subst e0 e1 e2 e3;exact⟨⟨⟨n1,n0,n2,n3⟩,tl⟩,c4,rfl,ht⟩
theorem oL{n:Nat}{v:Value}{x:DataW H×List MemPlace}(h:DataW.trod enc Tryz.prog w 0 spare held n 39 [v]=some x)(hw:WOK 39 x.1)(hb:Rows.uptoBulk x.1≤1048576):∃ rs,RecsX w.heap.size w v rs:=by
 rcases open_slice Tryz.underlying39 h with⟨hcs,_⟩|⟨a,len,cap,m,k,D,Pl,hcs,_,hlc,hcm,hm,rfl,hel⟩
 ·simp at hcs;subst hcs;exact⟨[],wO _ _⟩
 ·simp at hcs;subst hcs;simp only[Rows.uptoBulk]at hb;have hln:=aBa ((List.range len).map D);simp only[List.length_map,List.length_range]at hln;obtain⟨_,hwe⟩:=hw.slice Tryz.underlying39;have hml:len≤m:=by rw[hm];split<;>omega
  rw[Tryz.cellsR]at hel
  by_cases h0:len=0
  ·subst h0;exact⟨[],by simp,.inr ⟨a,0,0,cap,rfl,fun h=>by simp at h,fun i r hr=>by simp at hr⟩⟩
  obtain⟨f,hf⟩:=@choose_lt (Rec×Value) ⟨(⟨⟨0,0,0,0⟩,[]⟩,.bool true)⟩ len (fun i y=>w.cells? 0 (a.add (i*5)) 5=some (aG9 y.1 y.2)∧IntsX w.heap.size w y.2 y.1.told) (fun i hi=>by
   obtain⟨cs',hc,ht⟩:=hel i (by omega)
   obtain⟨r,u,rfl,hu⟩:=yK ht (hwe (D i) (by simp;exact⟨i,hi,rfl⟩))
   exact⟨(r,u),hc,hu⟩)
  obtain⟨b,off,spot⟩:=a;have hs:spot=none:=by
   have:=(World.cells?_some (hf 0 (by omega)).1).2.2 0 (by omega)
   simp[Addr.add]at this;exact World.cell?_spot this
  subst hs;have hcell:∀ i,i<len→∀ r v,(aG9 (f i).1 (f i).2)[r]?=some v→r<5→w.cell? ⟨b,off+i*5+r,none⟩=some v:=by
   intro i hi r v hv hr;have:=(World.cells?_some (hf i hi).1).2.2 r hr;rw[hv,Addr.add_lit,Addr.add_lit]at this;exact this
  refine⟨(List.range len).map (fun i=>(f i).1),by simp;omega,.inr ⟨⟨b,off,none⟩,b,off,cap,by simp,fun _=>⟨rfl,?_⟩,?_⟩⟩
  ·exact aC (hcell 0 (by omega) 0 _ rfl (by omega))
  ·intro i y hy;have hi:i<len:=by simpa using (List.getElem?_eq_some_iff.1 hy).1
   have:y=(f i).1:=by simpa [hi]using hy.symm
   subst this;exact⟨(f i).2,⟨hcell i hi 0 _ rfl (by omega),hcell i hi 1 _ rfl (by omega),hcell i hi 2 _ rfl (by omega),hcell i hi 3 _ rfl (by omega),hcell i hi 4 _ rfl (by omega)⟩,(hf i hi).2⟩
theorem aE9{n:Nat}{o:OpD}{x:DataW H×List MemPlace}(h:DataW.trod enc Tryz.prog w 0 spare held n 41 (dJ o)=some x)(hw:WOK 41 x.1)(hb:Rows.uptoBulk x.1≤1048576):traceK w.heap.size w o:=by
 refine⟨aE8 h hb _,?_⟩;obtain⟨xs,k,_,rfl,hl,hxl,hf⟩:=DataW.trod_struct Tryz.underlying41 h
 match xs,hxl with
 | [y0,y1,y2,y3,y4,y5,y6,y7,y8,y9],_=>
  have f7:=hf 7 _ rfl;have f8:=hf 8 _ rfl;simp[Tryz.cellsI,Tryz.cellsM,Tryz.cellsIs,Tryz.cellsRs,Tryz.cellsS,dJ]at f7 f8;have w7:WOK 39 y7.1:=fW Tryz.underlying41 hw (j:=7) rfl rfl;have w8:WOK 39 y8.1:=fW Tryz.underlying41 hw (j:=8) rfl rfl;have m7:Rows.uptoBulk y7.1≤Rows.uptoBulkAll ([y0,y1,y2,y3,y4,y5,y6,y7,y8,y9].map (·.1)):=rG (by simp)
  have m8:Rows.uptoBulk y8.1≤Rows.uptoBulkAll ([y0,y1,y2,y3,y4,y5,y6,y7,y8,y9].map (·.1)):=rG (by simp)
  simp only[Rows.uptoBulk]at hb;simp only[List.map_cons,List.map_nil]at m7 m8 hb;exact⟨oL f7 w7 (by omega),oL f8 w8 (by omega)⟩
theorem xE{n:Nat}{v:Value}{x:DataW H×List MemPlace}(h:DataW.trod enc Tryz.prog w 0 spare held n 22 [v]=some x)(hw:WOK 22 x.1)(hk:Rows.uptoSmall H [x.1]=true) :
  ∃ os:List OpD,eO w v os.length (bP os)∧(∀ o∈os,OpOK w.heap.size w o)∧(∀ o∈os,traceK w.heap.size w o)∧(∀ u∈bP os,u.oneCell'=true)∧(os.length+11)*160≤140737488355328∧os.length≤1048576:=by
 have hb0:Rows.uptoBulkAll [x.1]≤1048576:=of_decide_eq_true hk;simp only[Rows.uptoBulkAll]at hb0;rcases open_slice Tryz.underlying22 h with⟨hcs,_⟩|⟨a,len,cap,m,k,D,Pl,hcs,_,hlc,hcm,hm,rfl,hel⟩
 ·simp at hcs;subst hcs;exact⟨[],.inl ⟨rfl,rfl,rfl⟩,by simp,by simp,by simp[bP],by decide,by simp⟩
 ·simp at hcs;subst hcs;simp only[Rows.uptoBulk]at hb0;have hln:=aBa ((List.range len).map D);simp only[List.length_map,List.length_range]at hln;obtain⟨hb,hwe⟩:=hw.slice Tryz.underlying22;rw[Tryz.bytesO]at hb;unfold reachBytes at hb;simp only[List.length_map,List.length_range]at hb;have hml:len≤m:=by rw[hm];split<;>omega
  rw[Tryz.cellsO]at hel
  by_cases h0:len=0
  ·subst h0;exact⟨[],.inr (.inr ⟨a,cap,rfl,rfl⟩),by simp,by simp,by simp[bP],by decide,by simp⟩
  obtain⟨f,hf⟩:=@choose_lt OpD ⟨⟨0,0,0,0,0,0,.bool true,.bool true,.bool true,.bool true,.bool true,[],[]⟩⟩ len (fun i y=>w.cells? 0 (a.add (i*11)) 11=some (dJ y)∧OpOK w.heap.size w y∧traceK w.heap.size w y) (fun i hi=>by
   obtain⟨cs',hc,ht⟩:=hel i (by omega)
   have hwi:=hwe (D i) (by simp;exact⟨i,hi,rfl⟩)
   obtain⟨y,rfl,hy⟩:=aFi ht hwi;refine⟨y,hc,hy,aE9 ht hwi ?_⟩;have hmm:Rows.uptoBulk (D i)≤Rows.uptoBulkAll ((List.range len).map D):=rG (by simp;exact⟨i,hi,rfl⟩)
   show Rows.uptoBulk (D i)≤_;omega)
  obtain⟨b,off,spot⟩:=a;have hs:spot=none:=by
   have:=(World.cells?_some (hf 0 (by omega)).1).2.2 0 (by omega)
   simp[Addr.add]at this;exact World.cell?_spot this
  subst hs;have hokm:∀ o∈(List.range len).map f,OpOK w.heap.size w o∧traceK w.heap.size w o:=by
   intro o ho;obtain⟨i,hi,rfl⟩:=List.mem_map.1 ho;exact(hf i (List.mem_range.1 hi)).2
  refine⟨(List.range len).map f,.inr (.inl ⟨b,off,cap,by simp,?_⟩),fun o ho=>(hokm o ho).1,fun o ho=>(hokm o ho).2,?_,by simp;omega,by simp;omega⟩
  ·intro j v hv;have hj:j=(j / 11)*11+j % 11:=by omega
   rw[hj]at hv;obtain⟨hi,hc⟩:=aE1 f len (j / 11) (j % 11) v (by omega) hv
   have:=(World.cells?_some (hf (j / 11) hi).1).2.2 (j % 11) (by omega)
   rw[hc,Addr.add_lit,Addr.add_lit]at this;rw[←this];congr 2;omega
  ·intro u hu;obtain⟨o,ho,hu⟩:=List.mem_flatMap.1 hu;exact yC (hokm o ho).1 u hu
end
end Go.Proofs.YtndlmgocldckfaaGreat
