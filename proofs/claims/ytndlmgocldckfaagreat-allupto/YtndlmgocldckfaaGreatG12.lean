import Derived.Test.YtndlmgocldckfaaGreatG01
import Derived.Test.YtndlmgocldckfaaGreatG11
import Derived.Carry
namespace Go.Proofs.YtndlmgocldckfaaGreat
open Go.RowKit
set_option linter.unusedVariables false
set_option linter.unusedSimpArgs false
set_option maxRecDepth 100000
set_option maxHeartbeats 4000000
def oD(n:Int):Bool:=inB n 0 1000000000
def cO(l:List Int):Bool:=decide (l.length≤1000)&&l.all oD
def nA:List Int→Int→Int
 | [],_=>-1
 | x::l,i=>if oD x then nA l (i+1)else i
theorem aBu{l:List Int}{k:Nat}(h:k<l.length):nA (l.drop k) k=if oD l[k]then nA (l.drop (k+1)) ((k+1:Nat):Int)else (k:Int):=by
 rw[List.drop_eq_getElem_cons h,nA];simp
theorem xR:∀ (l:List Int) (i:Int),0≤i→decide (0≤nA l i)=!l.all oD
 | [],i,h=>by simp[nA]
 | x::l,i,h=>by
  rw[nA];have ih:=xR l (i+1) (by omega)
  cases hx:oD x
  ·simp[hx,h]
  ·simp[hx,ih]
theorem rO(b off cap:Nat)(l:List Int)(w:World)(hl:l.length≤1000)(hc:RowAt w b off (ints l)) :
  Calls Tryz.prog 120 #[.slice (some ⟨b,off,none⟩) l.length cap,.func (.func 101) #[] #[]] w
   fun e w'=>e=.returned (.int .i64 (nA l 0))∧w'=w:=by
 go_enter Tryz.func120,Tryz.ntmps120
 go_wp2
 go_loop [8,5] (fun i _=>∃ k:Nat,k≤l.length∧i=.int .i64 k∧Hid (nA (l.drop k) k=nA l 0)) (fun i _=>l.length-(intOf i).toNat)
 case atStart=>exact⟨0,by omega,rfl,rfl⟩
 case round=>
  obtain⟨k,hk,rfl,hb⟩:=hrel
  by_cases hlt:k<l.length
  ·have hx:w.cell? ⟨b,off+k,none⟩=some (.int .i64 l[k]):=hc k _ (by simp[ints,hlt])
   have hd:=aBu hlt;rcases hm:oD l[k]with _|_
   ·have Hd:Hid (nA l 0=k):=by show _=_;rw[←hb.out,hd,hm];rfl
    have hm':inB l[k] 0 1000000000=false:=hm;clear hd hm
    go_wp2_with (go_at_call 101;refine(pT _ _).mono ?_;rintro e w' ⟨rfl,rfl⟩)
    go_ret;exact⟨by rw[Hd.out];simp,rfl⟩
   ·have Hd:Hid (nA (l.drop (k+1)) ((k+1:Nat):Int)=nA l 0):=by show _=_;rw[←hb.out,hd,hm];rfl
    have hm':inB l[k] 0 1000000000=true:=hm;clear hd hm
    go_wp2_with (go_at_call 101;refine(pT _ _).mono ?_;rintro e w' ⟨rfl,rfl⟩)
    go_round
    case rel=>exact⟨k+1,by omega,by go_num,Hd⟩
    case measure=>simp[intOf];omega
  ·have Hd:Hid (nA l 0=-1):=by
    show _=_;rw[←hb.out,List.drop_of_length_le (by omega)];rfl
   go_wp2
   go_ret;exact⟨by rw[Hd.out];simp,rfl⟩
theorem uI(w:World) :
  Calls Tryz.prog 120 #[.slice none 0 0,.func (.func 101) #[] #[]] w
   fun e w'=>e=.returned (.int .i64 (nA [] 0))∧w'=w:=by
 go_enter Tryz.func120,Tryz.ntmps120
 go_wp2
 go_loop [8] (fun i=>i=.int .i64 0) (fun _=>0)
 case atStart=>rfl
 case round=>
  obtain rfl:=hrel
  go_wp2
  go_ret;exact⟨rfl,rfl⟩
theorem uJ{R:Nat→Prop}(v:Value)(l:List Int)(w:World)(hl:l.length≤1000)(hv:IntsIn R w v l) :
  Calls Tryz.prog 120 #[v,.func (.func 101) #[] #[]] w
   fun e w'=>e=.returned (.int .i64 (nA l 0))∧w'=w:=by
 obtain⟨_,⟨rfl,rfl⟩|⟨b,off,cap,rfl,_,hc⟩⟩:=hv
 ·exact uI w
 ·exact rO b off cap l w hl hc
theorem oZ{R:Nat→Prop}(v:Value)(l:List Int)(w:World)(hl:l.length≤1000)(hv:IntsIn R w v l) :
  Calls Tryz.prog 100 #[v,.func (.func 101) #[] #[]] w
   fun e w'=>e=.returned (.bool (!l.all oD))∧w'=w:=by
 have h:=xR l 0 (Int.le_refl _);rw[←h];clear h
 go_enter Tryz.func100,Tryz.ntmps100
 go_wp2_with (go_at_call 120;refine(uJ v l _ hl hv).mono ?_;rintro e w' ⟨rfl,rfl⟩)
 go_ret;exact⟨rfl,rfl⟩
theorem oE{R:Nat→Prop}(v:Value)(l:List Int)(w:World)(hv:IntsIn R w v l) :
  Calls Tryz.prog 60 #[v] w
   fun e w'=>e=.returned (.bool (cO l))∧w'=w:=by
 obtain⟨sa,sc,rfl⟩:=hv.form
 by_cases hl:l.length≤1000
 ·have h1:decide ((l.length:Int)≤1000)=true:=by simp;omega
  have Hd:Hid (cO l=l.all oD):=by show _=_;simp[cO,hl]
  go_enter Tryz.func60,Tryz.ntmps60
  go_wp2_with (go_at_call 100;refine(oZ _ l _ hl hv).mono ?_;rintro e w' ⟨rfl,rfl⟩)
  go_ret;exact⟨by rw[Hd.out];simp,rfl⟩
 ·have h1:decide ((l.length:Int)≤1000)=false:=by simp;omega
  have Hd:Hid (cO l=false):=by show _=_;simp[cO,hl]
  go_enter Tryz.func60,Tryz.ntmps60
  go_wp2
  go_ret;exact⟨by rw[Hd.out];simp,rfl⟩
theorem CodeV.src{B:Nat}{w:World}{v:Value}{l:List Ins}(h:CodeV B w v l):eO w v l.length (aO l):=by
 obtain⟨_,⟨rfl,rfl⟩|⟨b,off,cap,rfl,_,hc⟩|⟨a,cap,rfl,rfl⟩⟩:=h
 ·exact .inl ⟨rfl,rfl,rfl⟩
 ·exact .inr (.inl ⟨b,off,cap,rfl,hc.row⟩)
 ·exact .inr (.inr ⟨a,cap,rfl,rfl⟩)
def CopyTo(lo:Nat)(w:World)(g k:Nat)(ks:List (List Ins)):Prop:=
 ∀ (i:Nat) l,i<k→ks[i]?=some l→∃ v,w.cell? ⟨g,i,none⟩=some v∧CodeIn (fun b=>lo≤b∧b<w.heap.size) w v l
theorem CopyTo.step{lo:Nat}{w w1:World}{g k:Nat}{ks:List (List Ins)}(h:CopyTo lo w g k ks)(hg:g<lo)(hz:lo≤w.heap.size)(hb:Below w.heap.size w w1)(v:Value)(hk:k<ks.length)
  (hv:CodeIn (fun b=>lo≤b∧b<w1.heap.size) w1 v ks[k]) (hr:(w1.cell? ⟨g,k,none⟩).isSome=true):CopyTo lo (w1.setCell ⟨g,k,none⟩ v) g (k+1) ks:=by
 have hsz:(w1.setCell ⟨g,k,none⟩ v).heap.size=w1.heap.size:=by simp[World.setCell]
 have ho:Only (·=g) w1 (w1.setCell ⟨g,k,none⟩ v):=Only.setCell (S:=(·=g)) (Only.refl _ _) rfl _
 have hbs:=hb.size;intro i l hi hl;rw[hsz]
 by_cases hik:i=k
 ·subst hik;have:l=ks[i]:=by rw[List.getElem?_eq_getElem hk]at hl;exact(Option.some.inj hl).symm
  subst this;exact⟨v,World.cell?_setCell_same' _ _ _ hr,hv.only ho (by intro b hb;omega)⟩
 ·obtain⟨u,h1,h2⟩:=h i l (by omega) hl
  refine⟨u,?_,?_⟩
  ·rw[World.cell?_setCell_other _ _ _ _ (by simp;try omega)];exact aA hb h1 (by omega)
  ·exact((h2.only (Only.new (S:=fun _=>False) hb) (by simp)).mono (R':=fun b=>lo≤b∧b<w1.heap.size) (by intro b hb;omega)).only ho (by intro b hb;omega)
theorem aBt(ents:Int)(b off cap:Nat)(ks:List (List Ins))(w:World)(hl:ks.length≤5864062014805)(hbw:b<w.heap.size)(hK:KindsAt w.heap.size w b off ks) :
  Calls Tryz.prog 61 #[.agg #[.int .i64 ents,.slice (some ⟨b,off,none⟩) ks.length cap]] w
   fun e w'=>∃ sa sc,e=.returned (.agg #[.int .i64 ents,.slice sa ks.length sc])∧Below w.heap.size w w'∧KindsIn (fun b=>w.heap.size≤b∧b<w'.heap.size) w' (.slice sa ks.length sc) ks:=by
 go_enter Tryz.func61,Tryz.ntmps61
 go_wp2_with (at_make;refine bL _ rfl (.tmp 8) (.tmp 8) 36 rfl 60 (.slice none 0 0) 1 24 Tryz.underlying36 Tryz.info60 _ _ _ _ ks.length rfl rfl (by simp) (by simp) (by omega) (by omega) ?_)
 go_loopw [13,4,5] (fun i _ _ wr=>∃ k:Nat,k≤ks.length∧i=.int .i64 k∧Below w.heap.size w wr∧CopyTo (w.heap.size+1+1+1) wr (w.heap.size+1+1) k ks∧Room wr (w.heap.size+1+1) ks.length ∧
   wr.cell? ⟨w.heap.size,0,none⟩=some (.int .i64 ents)∧Room wr (w.heap.size+1) 2∧w.heap.size+1+1<wr.heap.size) (fun i _ _ _=>ks.length-(intOf i).toNat)
 case atStart=>
  obtain⟨W,hW⟩:∃ W,W=(w.alloc (Obj.cells #[Value.int IntKind.i64 ents,Value.slice (some {block:=b,off:=off}) ks.length cap] 38)).alloc (Obj.cells #[Value.int IntKind.i64 0,Value.slice none 0 0] 38):=⟨_,rfl⟩;have hWs:W.heap.size=w.heap.size+1+1:=by rw[hW];simp
  have hWb:Below w.heap.size w W:=by rw[hW];exact((Below.refl _ _).alloc (Nat.le_refl _) _).alloc (by simp) _
  have hW1:W.cell? ⟨w.heap.size,0,none⟩=some (.int .i64 ents):=by rw[hW];simp[go_sem]
  have hW3:Room W (w.heap.size+1) 2:=by
   rw[hW];intro j hj;have:j=0∨j=1:=by omega
   rcases this with rfl|rfl<;>simp[go_sem]
  have hB:=(Below.refl W.heap.size W).alloc (Nat.le_refl _) (.cells (madeCells #[.slice none 0 0] ks.length) 60);have hR:=gL W #[.slice none 0 0] ks.length 60;rw[hWs]at hB hR;rw[←hW];exact⟨0,by omega,rfl,hWb.trans (hB.mono (by omega)),fun i l hi=>absurd hi (by omega),hR,aA hB hW1 (by omega),hW3.below hB (by omega),by simp[hWs]⟩
 case round=>
  obtain⟨k,hk,rfl,hbel,hC,hR,hm0,hR1,hz⟩:=hrel
  by_cases hlt:k<ks.length
  ·obtain⟨v,hv0,hv⟩:=(hK.below hbel hbw (Nat.le_refl _)) k ks[k] (by simp)
   have Hs:=aB hv.src;have Hl:=aB hv.1;have Hlt:Hid (k<ks.length):=hlt
   go_wp2_with (at_builtin;refine aD rfl (.const (.slice none 0 0)) (.tmp 20) 60 rfl (w.heap.size+1+1+1) 59 (.agg #[.int .i64 0,.int .i64 0,.int .i64 0,.int .i64 0]) 4 32 Tryz.underlying60 Tryz.info59 rfl (by omega) _ 0 [] rfl (World.ownsRow_nil _ _ _ _) v ks[k].length (aO ks[k]) rfl Hs.out (cL _) (dH _) (by have:=Hl.out;omega) (by have:=Hl.out;omega) (by omega) ?_)
   intro v1 w1 hown hgr hnil;have hb1:Below wr.heap.size wr w1:=(Below.refl _ _).grown hgr.out (Nat.le_refl _) (by intro k hk;simp[Value.ownBlock]at hk)
   have hcode:=uY (l:=ks[k]) (by simpa using hown.out) hv.1
   obtain⟨hs1,hf1⟩:=(hR.below hb1 (by omega)) k hlt
   obtain⟨u1,hu1⟩:=Option.isSome_iff_exists.1 hs1;obtain⟨sa,sc,rfl⟩:=hcode.form;have HC:=aB hcode;clear hcode
   go_wp2
   go_roundw
   case rel=>
    have hbs:=hb1.size;refine⟨k+1,by omega,by go_num,(hbel.trans (hb1.mono (by omega))).setCell (by simp;omega) _,hC.step (by omega) (by omega) hb1 _ hlt HC.out hs1,(hR.below hb1 (by omega)).setCell _ _,?_,(hR1.below hb1 (by omega)).setCell _ _,by simp[World.setCell];omega⟩
    rw[World.cell?_setCell_other _ _ _ _ (by simp;try omega)];exact aA hb1 hm0 (by omega)
   case measure=>simp[intOf];omega
  ·have hk':k=ks.length:=by omega
   subst hk';obtain⟨s1,f1⟩:=hR1 0 (by omega)
   obtain⟨s2,f2⟩:=hR1 1 (by omega)
   obtain⟨u1,hu1⟩:=Option.isSome_iff_exists.1 s1;obtain⟨u2,hu2⟩:=Option.isSome_iff_exists.1 s2;clear s1 s2
   go_wp2
   refine bodyPost_ret (v:=.agg #[.int .i64 ents,.slice (some ⟨w.heap.size+1+1,0,none⟩) ks.length ks.length]) (by simp[results,Tryz.results61,go_sem,hu1,hu2]) rfl ⟨_,_,rfl,(hbel.setCell (by simp) _).setCell (by simp) _,hl,.inr ⟨w.heap.size+1+1,0,_,rfl,by simp[World.setCell];omega,?_⟩⟩
   intro i l hil;have hilt:i<ks.length:=(List.getElem?_eq_some_iff.1 hil).1;obtain⟨v,h1,h2⟩:=hC i l hilt hil;have ho:Only (·=w.heap.size+1) wr _:=((Only.refl (·=w.heap.size+1) wr).setCell (p:=⟨w.heap.size+1,0,none⟩) rfl (.int .i64 ents)).setCell (p:=⟨w.heap.size+1,1,none⟩) rfl (.slice (some ⟨w.heap.size+1+1,0,none⟩) ks.length ks.length)
   refine⟨v,?_,(h2.only ho (by intro b hb;omega)).mono (by intro b hb;simp[World.setCell];omega)⟩
   rw[Nat.zero_add];exact ho.at h1 (by omega)
def ks0:KS:=⟨0,0,1,fun _=>0,[]⟩
theorem aDm(W:World)(R:Nat→Prop)(base:Nat)(T:TypeId)(C:Array Value)(ents:Int)(kv dv:Value)(qb mb:Nat)(ks:List (List Ins))(draws:List Int)(hk:KindsIn R W kv ks)(hd:IntsIn R W dv draws)(hq:QueP base W qb mb (.slice none 0 0) [])(hR:∀ b,R b→b<W.heap.size∧b≠qb∧b≠mb)
  (h0:C[0]?=some (.int .i64 ents)) (h1:C[1]?=some kv) (h2:C[2]?=some dv) (h3:C[3]?=some (.pointer (some ⟨qb,0,none⟩))) (h4:C[4]?=some (.int .i64 0)) (h5:C[5]?=some (.int .i64 1)) (h6:C[6]?=some (.int .i64 0)) (hr:∀ j,j<32→C[7+j]?=some (.int .i64 0)) :
  KerP R base (W.alloc (.cells C T)) W.heap.size qb mb (.slice none 0 0) ents ks draws ks0:=by
 have hb:=(Below.refl W.heap.size W).alloc (Nat.le_refl _) (.cells C T);have hat:∀ i,(W.alloc (.cells C T)).cell? ⟨W.heap.size,i,none⟩=C[i]?:=fun i=>World.cell?_alloc_at _ _ _ _ rfl;have hfr:∀ i,(W.alloc (.cells C T)).frozen? ⟨W.heap.size,i,none⟩=false:=fun i=>World.frozen?_alloc_at _ _ _ _ rfl;have ho:=Only.new (S:=fun _=>False) hb;have hnk:¬dV qb mb (.slice none 0 0) W.heap.size:=by
  rintro (hc|hc|hc)
  ·have:=hq.lt qb (.inl rfl);omega
  ·have:=hq.lt mb (.inr (.inl rfl));omega
  ·simp[Value.ownBlock]at hc
 refine⟨(hat 0).trans h0,⟨kv,(hat 1).trans h1,hk.only ho (by simp)⟩,⟨dv,(hat 2).trans h2,hd.only ho (by simp)⟩,(hat 3).trans h3,(hat 4).trans h4,(hat 5).trans h5,(hat 6).trans h6,fun j hj=>(hat _).trans (hr j hj),?_,hq.only ho (by simp),hnk,?_,fun b hb'=>by have:=(hR b hb').1;simp;omega⟩
 ·intro j hj;refine⟨?_,hfr j⟩;rw[hat]
  by_cases hj7:7≤j
  ·have:=hr (j-7) (by omega)
   rw[show 7+(j-7)=j by omega]at this
   rw[this];rfl
  ·have:j=0∨j=1∨j=2∨j=3∨j=4∨j=5∨j=6:=by omega
   rcases this with rfl|rfl|rfl|rfl|rfl|rfl|rfl
   ·rw[h0];rfl
   ·rw[h1];rfl
   ·rw[h2];rfl
   ·rw[h3];rfl
   ·rw[h4];rfl
   ·rw[h5];rfl
   ·rw[h6];rfl
 ·intro b hb';obtain⟨r1,r2,r3⟩:=hR b hb';refine⟨by omega,?_⟩
  rintro (hc|hc|hc)
  ·exact r2 hc
  ·exact r3 hc
  ·simp[Value.ownBlock]at hc
theorem aF7(a b c d e f g:Value):∀ j,j<32→(#[a,b,c,d,e,f,g,.int .i64 0,.int .i64 0,.int .i64 0,.int .i64 0,.int .i64 0,.int .i64 0,.int .i64 0,.int .i64 0,.int .i64 0,.int .i64 0,.int .i64 0,.int .i64 0,.int .i64 0,.int .i64 0,.int .i64 0,.int .i64 0,.int .i64 0,.int .i64 0,.int .i64 0,.int .i64 0,.int .i64 0,.int .i64 0,.int .i64 0,.int .i64 0,.int .i64 0,.int .i64 0,.int .i64 0,.int .i64 0,.int .i64 0,.int .i64 0,.int .i64 0,.int .i64 0]:Array Value)[7+j]?=some (.int .i64 0):=by
 intro j hj;have:j=0∨j=1∨j=2∨j=3∨j=4∨j=5∨j=6∨j=7∨j=8∨j=9∨j=10∨j=11∨j=12∨j=13∨j=14∨j=15∨j=16∨j=17∨j=18∨j=19∨j=20∨j=21∨j=22∨j=23∨j=24∨j=25∨j=26∨j=27∨j=28∨j=29∨j=30∨j=31:=by omega
 rcases this with rfl|rfl|rfl|rfl|rfl|rfl|rfl|rfl|rfl|rfl|rfl|rfl|rfl|rfl|rfl|rfl|rfl|rfl|rfl|rfl|rfl|rfl|rfl|rfl|rfl|rfl|rfl|rfl|rfl|rfl|rfl|rfl<;>rfl
theorem kT{B:Nat}(ents:Int)(v dv:Value)(ks:List (List Ins))(w:World)(hv:KindsV w.heap.size w v ks)(p:Nat×Nat)(hk:bE ents ks=some p) :
  Calls Tryz.prog 26 #[.agg #[.int .i64 ents,v],dv] w
   fun e w'=>e=.returned (.tuple #[.pointer none,.int .i64 2])∧Below w.heap.size w w':=by
 have hV:bO ents ks=.tuple #[.int .i64 2,.int .i64 p.1,.int .i64 p.2]:=by simp[bO,hk]
 have HV:=aB hV;clear hV hk
 go_enter Tryz.func26,Tryz.ntmps26
 go_wp2_with fail
 refine(kO ents v ks _ ((hv.below ((Below.refl _ _).alloc (Nat.le_refl _) _)).mono (by simp))).mono ?_
 rintro e w1 ⟨rfl,hb1⟩;rw[HV.out]
 go_wp2
 go_ret2;exact⟨rfl,((Below.refl _ _).alloc (Nat.le_refl _) _).trans (hb1.mono (by simp))⟩
theorem rS(ents:Int)(v dv:Value)(ks:List (List Ins))(draws:List Int)(w:World)(hv:KindsV w.heap.size w v ks)(hd:IntsIn (·<w.heap.size) w dv draws)(hk:bE ents ks=none)(hD:cO draws=false) :
  Calls Tryz.prog 26 #[.agg #[.int .i64 ents,v],dv] w
   fun e w'=>e=.returned (.tuple #[.pointer none,.int .i64 1])∧Below w.heap.size w w':=by
 have HV:Hid (bO ents ks=.tuple #[.int .i64 0,.int .i64 0,.int .i64 0]):=by show _=_;simp[bO,hk]
 clear hk
 go_enter Tryz.func26,Tryz.ntmps26
 go_wp2_with fail
 refine(kO ents v ks _ ((hv.below ((Below.refl _ _).alloc (Nat.le_refl _) _)).mono (by simp))).mono ?_
 rintro e w1 ⟨rfl,hb1⟩;rw[HV.out];have hb2:Below w.heap.size w w1:=((Below.refl _ _).alloc (Nat.le_refl _) _).trans (hb1.mono (by simp))
 go_wp2_with fail
 refine(oE dv draws _ (hd.only (Only.ofBelow (S:=(w.heap.size≤·)) hb2 (fun k h _=>h)) (by intro b hb;omega))).mono ?_
 rintro e w2 ⟨rfl,rfl⟩;rw[hD]
 go_wp2
 go_ret2;exact⟨rfl,hb2⟩
theorem Tryz.infoI:(Tryz.prog.info? 3).map (fun i=>(i.zero,i.size,i.bytes))=some (some (.int .i64 0),1,8):=by kernel_rfl
theorem IntsIn.src{R:Nat→Prop}{w:World}{v:Value}{l:List Int}(h:IntsIn R w v l):eO w v l.length (ints l):=by
 obtain⟨_,⟨rfl,rfl⟩|⟨b,off,cap,rfl,_,hc⟩⟩:=h
 ·exact .inl ⟨rfl,rfl,rfl⟩
 ·exact .inr (.inl ⟨b,off,cap,rfl,hc⟩)
theorem xT(ents:Int)(b off cap:Nat)(dv:Value)(ks:List (List Ins))(draws:List Int)(w:World)(hl:ks.length≤5864062014805)(hbw:b<w.heap.size)(hK:KindsAt w.heap.size w b off ks)(hd:IntsIn (·<w.heap.size) w dv draws)(hk:bE ents ks=none)(hD:cO draws=true) :
  Calls Tryz.prog 26 #[.agg #[.int .i64 ents,.slice (some ⟨b,off,none⟩) ks.length cap],dv] w
   fun e w'=>∃ kb qb mb,e=.returned (.tuple #[.pointer (some ⟨kb,0,none⟩),.int .i64 0])∧Below w.heap.size w w'∧w.heap.size≤kb∧w.heap.size≤qb∧w.heap.size≤mb ∧
    KerP (fun b=>w.heap.size≤b∧b<w'.heap.size∧b≠kb∧b≠qb∧b≠mb) w.heap.size w' kb qb mb (.slice none 0 0) ents ks draws ks0:=by
 have HV:Hid (bO ents ks=.tuple #[.int .i64 0,.int .i64 0,.int .i64 0]):=by show _=_;simp[bO,hk]
 clear hk
 go_enter Tryz.func26,Tryz.ntmps26
 go_wp2_with fail
 have hv:KindsV w.heap.size w (.slice (some ⟨b,off,none⟩) ks.length cap) ks:=⟨hl,.inr (.inl ⟨b,off,cap,rfl,hbw,hK⟩)⟩;refine(kO ents _ ks _ ((hv.below ((Below.refl _ _).alloc (Nat.le_refl _) _)).mono (by simp))).mono ?_
 rintro e w1 ⟨rfl,hb1⟩;rw[HV.out];have hb2:Below w.heap.size w w1:=((Below.refl _ _).alloc (Nat.le_refl _) _).trans (hb1.mono (by simp))
 have hm0:w1.cell? ⟨w.heap.size,0,none⟩=some (.int .i64 ents):=aA hb1 (by simp[go_sem]) (by simp)
 have hm1:w1.cell? ⟨w.heap.size,1,none⟩=some (.slice (some ⟨b,off,none⟩) ks.length cap):=aA hb1 (by simp[go_sem]) (by simp)
 have hz1:w.heap.size<w1.heap.size:=by have:=hb1.size;simp at this;omega
 clear hb1
 go_wp2_with fail
 refine(oE dv draws _ (hd.only (Only.ofBelow (S:=(w.heap.size≤·)) hb2 (fun k h _=>h)) (by intro b hb;omega))).mono ?_
 rintro e w2 ⟨rfl,rfl⟩;rw[hD]
 go_wp2_with fail
 refine(aBt ents b off cap ks _ hl (by omega) ((hK.below hb2 hbw (Nat.le_refl _)).mono (by omega))).mono ?_
 rintro e w3 ⟨sa,sc,rfl,hb3,hK3⟩;have hd3:=((hd.only (Only.ofBelow (S:=(w.heap.size≤·)) hb2 (fun k h _=>h)) (by intro b hb;omega)).only (Only.new (S:=fun _=>False) hb3) (by simp))
 have Hs:=aB hd3.src;have Hl:=aB hd3.1
 go_wp2_with (at_builtin;refine aD rfl (.const (.slice none 0 0)) (.tmp 23) 24 rfl w3.heap.size 3 (.int .i64 0) 1 8 Tryz.underlying24 Tryz.infoI rfl (by omega) _ 0 [] rfl (World.ownsRow_nil _ _ _ _) dv draws.length (ints draws) rfl Hs.out (by simp[ints]) (oB _) (by have:=Hl.out;omega) (by have:=Hl.out;omega) (by omega) ?_)
 intro v4 w4 hown hgr hnil;have hb4:Below w3.heap.size w3 w4:=(Below.refl _ _).grown hgr.out (Nat.le_refl _) (by intro k hk;simp[Value.ownBlock]at hk)
 have hd4:=oT (l:=draws) (by simpa using hown.out) hd.1
 obtain⟨sa4,sc4,rfl⟩:=hd4.form
 go_wp2_with (go_at_call 62;refine(yP _).mono ?_;rintro e w5 ⟨rfl,rfl⟩)
 go_ret2;obtain⟨W,hW⟩:∃ W,W=(w4.alloc (.map #[] 0)).alloc (.cells #[.map (some w4.heap.size),.slice none 0 0] 156):=⟨_,rfl⟩;have hWs:W.heap.size=w4.heap.size+1+1:=by rw[hW];simp
 have hWb:Below w4.heap.size w4 W:=by rw[hW];exact((Below.refl _ _).alloc (Nat.le_refl _) _).alloc (by simp) _
 have hWq:QueP w.heap.size W (w4.heap.size+1) w4.heap.size (.slice none 0 0) []:=by rw[hW];exact yQ _ _ _
 rw[←hW];have hz2:=hb2.size;have hz3:=hb3.size;have hz4:=hb4.size;have hk5:KindsIn (fun b=>w.heap.size≤b∧b<w4.heap.size) W (.slice sa ks.length sc) ks:=
  (((hK3.only (Only.new (S:=fun _=>False) hb4) (by simp)).mono (R':=fun b=>w.heap.size≤b∧b<w4.heap.size) (by intro b hb;omega)).only (Only.new (S:=fun _=>False) hWb) (by simp))
 have hd5:IntsIn (fun b=>w.heap.size≤b∧b<w4.heap.size) W (.slice sa4 draws.length sc4) draws:=
  (hd4.only (Only.new (S:=fun _=>False) hWb) (by simp)).mono (by intro b hb;omega)
 have hP:=aDm W (fun b=>w.heap.size≤b∧b<w4.heap.size) w.heap.size 114 #[.int .i64 ents,.slice sa ks.length sc,.slice sa4 draws.length sc4,.pointer (some ⟨w4.heap.size+1,0,none⟩),.int .i64 0,.int .i64 1,.int .i64 0,.int .i64 0,.int .i64 0,.int .i64 0,.int .i64 0,.int .i64 0,.int .i64 0,.int .i64 0,.int .i64 0,.int .i64 0,.int .i64 0,.int .i64 0,.int .i64 0,.int .i64 0,.int .i64 0,.int .i64 0,.int .i64 0,.int .i64 0,.int .i64 0,.int .i64 0,.int .i64 0,.int .i64 0,.int .i64 0,.int .i64 0,.int .i64 0,.int .i64 0,.int .i64 0,.int .i64 0,.int .i64 0,.int .i64 0,.int .i64 0,.int .i64 0,.int .i64 0] ents _ _ (w4.heap.size+1) w4.heap.size ks draws hk5 hd5 hWq (by intro b hb;omega) rfl rfl rfl rfl rfl rfl rfl (aF7 _ _ _ _ _ _ _)
 have hB:=(Below.refl W.heap.size W).alloc (Nat.le_refl _) (.cells #[.int .i64 ents,.slice sa ks.length sc,.slice sa4 draws.length sc4,.pointer (some ⟨w4.heap.size+1,0,none⟩),.int .i64 0,.int .i64 1,.int .i64 0,.int .i64 0,.int .i64 0,.int .i64 0,.int .i64 0,.int .i64 0,.int .i64 0,.int .i64 0,.int .i64 0,.int .i64 0,.int .i64 0,.int .i64 0,.int .i64 0,.int .i64 0,.int .i64 0,.int .i64 0,.int .i64 0,.int .i64 0,.int .i64 0,.int .i64 0,.int .i64 0,.int .i64 0,.int .i64 0,.int .i64 0,.int .i64 0,.int .i64 0,.int .i64 0,.int .i64 0,.int .i64 0,.int .i64 0,.int .i64 0,.int .i64 0,.int .i64 0] 114);rw[hWs]at hP hB
 have hsz:(W.alloc (.cells #[.int .i64 ents,.slice sa ks.length sc,.slice sa4 draws.length sc4,.pointer (some ⟨w4.heap.size+1,0,none⟩),.int .i64 0,.int .i64 1,.int .i64 0,.int .i64 0,.int .i64 0,.int .i64 0,.int .i64 0,.int .i64 0,.int .i64 0,.int .i64 0,.int .i64 0,.int .i64 0,.int .i64 0,.int .i64 0,.int .i64 0,.int .i64 0,.int .i64 0,.int .i64 0,.int .i64 0,.int .i64 0,.int .i64 0,.int .i64 0,.int .i64 0,.int .i64 0,.int .i64 0,.int .i64 0,.int .i64 0,.int .i64 0,.int .i64 0,.int .i64 0,.int .i64 0,.int .i64 0,.int .i64 0,.int .i64 0,.int .i64 0] 114)).heap.size=w4.heap.size+3:=by simp[hWs]
 refine⟨w4.heap.size+1+1,w4.heap.size+1,w4.heap.size,rfl,?_,by omega,by omega,by omega,?_⟩
 ·exact hb2.trans ((hb3.mono (by omega)).trans ((hb4.mono (by omega)).trans ((hWb.mono (by omega)).trans (hB.mono (by omega)))))
 ·obtain⟨c0,⟨kv,k1,k2⟩,⟨dv',d1,d2⟩,c3,c4,c5,c6,rg,rm,qe,kq,fr,rl⟩:=hP;refine⟨c0,⟨kv,k1,k2.mono ?_⟩,⟨dv',d1,d2.mono ?_⟩,c3,c4,c5,c6,rg,rm,qe,kq,?_,?_⟩
  ·intro b hb;rw[hsz];omega
  ·intro b hb;rw[hsz];omega
  ·intro b hb;refine⟨hb.2.2.1,?_⟩;rintro (hc|hc|hc)
   ·exact hb.2.2.2.1 hc
   ·exact hb.2.2.2.2 hc
   ·simp[Value.ownBlock]at hc
  ·intro b hb;exact hb.2.1
theorem aBz{R:Nat→Prop}{base:Nat}(kb qb mb:Nat)(ov:Value)(ents:Int)(ks:List (List Ins))(draws:List Int)(s:KS)(m:Int)(w:World)(h:KerP R base w kb qb mb ov ents ks draws s)(hl:s.taken=draws.length) :
  Calls Tryz.prog 136 #[.pointer (some ⟨kb,0,none⟩),.int .i64 m] w fun e w'=>e=.returned (.tuple #[.int .i64 0,.int .i64 5])∧Below w.heap.size w w':=by
 obtain⟨dv,h2,hd⟩:=h.draw;obtain⟨da,dc,rfl⟩:=hd.form;have h6:=h.c6;have hdl:=hd.1;rw[hl]at h6;clear h hd hl
 go_enter Tryz.func136,Tryz.ntmps136
 go_wp2
 go_quiet (fail)
 go_wp2
 go_ret2;exact⟨rfl,below_drewN (Below.refl _ _) _⟩
theorem aC0{R:Nat→Prop}{base:Nat}(kb qb mb:Nat)(ov:Value)(ents:Int)(ks:List (List Ins))(draws:List Int)(s:KS)(m d:Int)(w:World)(h:KerP R base w kb qb mb ov ents ks draws s)(hd1:draws[s.taken]?=some d)(hm:1≤m∧m≤1000000000)(hdr:0≤d∧d≤1000000000) :
  Calls Tryz.prog 136 #[.pointer (some ⟨kb,0,none⟩),.int .i64 m] w fun e w'=>e=.returned (.tuple #[.int .i64 (d % m),.int .i64 0])∧Only (·=kb) w w'∧KerP R base w' kb qb mb ov ents ks draws {s with taken:=s.taken+1}:=by
 have H:=aB h;obtain⟨dv,h2,hd⟩:=h.draw;have hlt:s.taken<draws.length:=(List.getElem?_eq_some_iff.1 hd1).1;obtain⟨hdl,⟨_,h0⟩|⟨db,off,cap,rfl,hR,hrow⟩⟩:=hd
 ·rw[h0]at hlt;simp at hlt
 have hc:=hrow s.taken (.int .i64 d) (by simp[ints,hd1])
 have h6:=h.c6;have hf6:=(h.room 6 (by omega)).2
 have hset:=h.setTaken (s.taken+1);have Hset:=aB hset;have e1:((s.taken:Int)==(draws.length:Int))=false:=by simp;omega
 have e2:(s.taken:Int)<(draws.length:Int):=by omega
 obtain⟨m1,m2⟩:=hm;obtain⟨d1,d2⟩:=hdr;have e3:(m==0)=false:=by simp;omega
 have e4:=Int.emod_lt_of_pos d (show 0<m by omega)
 have e5:=Int.emod_nonneg d (show m≠0 by omega)
 have hw:IntKind.i64.wrap (d % m)=d % m:=by rw[IntKind.wrap_i64];omega
 clear h hrow hset hd1 hR
 go_enter Tryz.func136,Tryz.ntmps136
 go_wp2
 go_quiet (fail)
 go_wp2
 go_quiet (fail)
 go_wp2
 go_ret2;refine⟨rfl,(Only.new (below_drewN (Below.refl _ _) _)).trans (Only.setCell (S:=(·=kb)) (Only.refl _ _) (p:=⟨kb,6,none⟩) rfl _),?_⟩
 exact(H.out.below (below_drewN (Below.refl _ _) _)).setTaken (s.taken+1)
theorem jG{R:Nat→Prop}{base:Nat}(kb qb mb:Nat)(ov:Value)(ents:Int)(ks:List (List Ins))(draws:List Int)(s:KS)(w:World)(h:KerP R base w kb qb mb ov ents ks draws s) :
  Calls Tryz.prog 85 #[.pointer (some ⟨kb,0,none⟩)] w fun e w'=>e=.returned (.bool (decide (s.q.length<16∧s.next<1000000000)))∧w'=w:=by
 have h3:=h.c3;have h5:=h.c5;have hq:=h.que;have hl:=hq.len;have Hq:=aB hq;clear h hq
 by_cases h16:s.q.length<16
 ·have e1:decide (16≤(s.q.length:Int))=false:=by simp;omega
  go_enter Tryz.func85,Tryz.ntmps85
  go_wp2_with (go_at_call 113;refine(vW qb mb ov s.q _ Hq.out).mono ?_;rintro e w' ⟨rfl,rfl⟩;rw[e1])
  go_ret;exact⟨by simp[h16],rfl⟩
 ·have e1:decide (16≤(s.q.length:Int))=true:=by simp;omega
  go_enter Tryz.func85,Tryz.ntmps85
  go_wp2_with (go_at_call 113;refine(vW qb mb ov s.q _ Hq.out).mono ?_;rintro e w' ⟨rfl,rfl⟩;rw[e1])
  go_ret;exact⟨by simp[h16],rfl⟩
theorem Moved.trans{w w':World}{a b c:Value}(h:Moved w a b)(h':Moved w' b c)(hs:w.heap.size≤w'.heap.size):Moved w a c:=by
 rcases h' with e|⟨g,e,hg⟩
 ·rcases h with e'|⟨g',e',hg'⟩
  ·exact .inl (e.trans e')
  ·exact .inr ⟨g',e.trans e',hg'⟩
 ·exact .inr ⟨g,e,by omega⟩
theorem aB4{R:Nat→Prop}{base:Nat}(kb qb mb:Nat)(ov:Value)(ents:Int)(ks:List (List Ins))(draws:List Int)(s:KS)(time kind ent:Int)(w:World)(h:KerP R base w kb qb mb ov ents ks draws s)(hbase:base≤w.heap.size)(hl:s.q.length<16)(hn:∀ x∈s.q,x.number<s.next)(hn2:1≤s.next∧s.next<1000000000) :
  Calls Tryz.prog 86 #[.pointer (some ⟨kb,0,none⟩),.int .i64 time,.int .i64 kind,.int .i64 ent] w
   fun e w'=>∃ ov',e=.returned (.int .i64 s.next)∧Only (bG kb qb mb ov) w w'∧Moved w ov ov'∧KerP R base w' kb qb mb ov' ents ks draws {s with q:=dR ⟨time,s.next,kind,ent⟩ s.q,next:=s.next+1}:=by
 have H:=aB h;have h3:=h.c3;have h5:=h.c5;have hq:=h.que;have hkl:=h.klt;have Hn:Hid (∀ x∈s.q,x.number≠s.next):=fun x hx=>by have:=hn x hx;omega
 have hkq:=h.kq;have Hq:=aB hq;have Hkq:=aB hkq;have hf5:=(h.room 5 (by omega)).2
 obtain⟨n1,n2⟩:=hn2;clear h hq hn hkq
 go_enter Tryz.func86,Tryz.ntmps86
 go_wp2_with (go_at_call 114;refine(yS qb mb ov s.q ⟨time,s.next,kind,ent⟩ _ Hq.out hbase hl Hn.out).mono ?_;rintro e w1 ⟨ov1,rfl,ho1,hq1,hm1⟩;(have k5:=ho1.at h5 Hkq.out);(have kf:w1.frozen? ⟨kb,5,none⟩=false:=(World.frozen?_of_block (w:=w) (a:=⟨kb,5,none⟩) (ho1.block kb hkl Hkq.out)).trans hf5))
 go_ret;exact⟨ov1,rfl,(ho1.mono (fun k _ hk=>.inr hk)).setCell (.inl rfl) _,hm1,(H.out.queue ho1 hq1 hm1).setNext (s.next+1)⟩
theorem xU{R:Nat→Prop}{base:Nat}(kb qb mb:Nat)(ov:Value)(ents:Int)(ks:List (List Ins))(draws:List Int)(s:KS)(ticks kind ent:Int)(w:World)(h:KerP R base w kb qb mb ov ents ks draws s)(hf:¬(s.q.length<16∧s.next<1000000000)) :
  Calls Tryz.prog 137 #[.pointer (some ⟨kb,0,none⟩),.int .i64 ticks,.int .i64 kind,.int .i64 ent] w fun e w'=>e=.returned (.tuple #[.int .i64 0,.int .i64 3])∧w'=w:=by
 have e1:decide (s.q.length<16∧s.next<1000000000)=false:=by simpa using hf
 go_enter Tryz.func137,Tryz.ntmps137
 go_wp2_with (go_at_call 85;refine(jG kb qb mb ov ents ks draws s _ h).mono ?_;rintro e w' ⟨rfl,rfl⟩;rw[e1])
 go_ret2;exact⟨rfl,rfl⟩
theorem xV{R:Nat→Prop}{base:Nat}(kb qb mb:Nat)(ov:Value)(ents:Int)(ks:List (List Ins))(draws:List Int)(s:KS)(ticks kind ent:Int)(w:World)(h:KerP R base w kb qb mb ov ents ks draws s)(hf:s.q.length<16∧s.next<1000000000)(hc:0≤s.clock∧s.clock≤1000000000000)(ht:-1000000000≤ticks∧ticks≤1000000000)(hl:1000000000000<s.clock+max ticks 0) :
  Calls Tryz.prog 137 #[.pointer (some ⟨kb,0,none⟩),.int .i64 ticks,.int .i64 kind,.int .i64 ent] w fun e w'=>e=.returned (.tuple #[.int .i64 0,.int .i64 4])∧w'=w:=by
 have e1:decide (s.q.length<16∧s.next<1000000000)=true:=by simpa using hf
 have h4:=h.c4;have H:=aB h;obtain⟨c1,c2⟩:=hc;obtain⟨t1,t2⟩:=ht;obtain⟨M,hM⟩:∃ M,M=max ticks 0:=⟨_,rfl⟩;rw[←hM]at hl;have m1:0≤M:=by omega
 have m2:M≤1000000000:=by omega
 have e2:decide (1000000000000<s.clock+M)=true:=by simpa using hl
 have hM':(if ticks<0 then (0:Int)else ticks)=M:=by rw[hM];split<;>omega
 clear h hf
 go_enter Tryz.func137,Tryz.ntmps137
 go_wp2_with (go_at_call 85;refine(jG kb qb mb ov ents ks draws s _ H.out).mono ?_;rintro e w' ⟨rfl,rfl⟩;rw[e1])
 go_ret2;exact⟨rfl,rfl⟩
theorem aC1{R:Nat→Prop}{base:Nat}(kb qb mb:Nat)(ov:Value)(ents:Int)(ks:List (List Ins))(draws:List Int)(s:KS)(ticks kind ent:Int)(w:World)(h:KerP R base w kb qb mb ov ents ks draws s)(hbase:base≤w.heap.size)(hf:s.q.length<16∧s.next<1000000000)(hc:0≤s.clock∧s.clock≤1000000000000)(ht:-1000000000≤ticks∧ticks≤1000000000)(hl:¬1000000000000<s.clock+max ticks 0)(hn:∀ x∈s.q,x.number<s.next)(hn1:1≤s.next) :
  Calls Tryz.prog 137 #[.pointer (some ⟨kb,0,none⟩),.int .i64 ticks,.int .i64 kind,.int .i64 ent] w
   fun e w'=>e=.returned (.tuple #[.int .i64 s.next,.int .i64 0])∧Only (bG kb qb mb ov) w w'∧∃ ov',Moved w ov ov'∧KerP R base w' kb qb mb ov' ents ks draws {s with q:=dR ⟨s.clock+max ticks 0,s.next,kind,ent⟩ s.q,next:=s.next+1}:=by
 have e1:decide (s.q.length<16∧s.next<1000000000)=true:=by simpa using hf
 have h4:=h.c4;have H:=aB h;obtain⟨c1,c2⟩:=hc;obtain⟨t1,t2⟩:=ht;obtain⟨f1,f2⟩:=hf;have Hn:=aB hn;clear h hn;have e9:max ticks 0=if ticks<0 then (0:Int)else ticks:=by split<;>omega
 rw[e9]at hl ⊢;have e2:decide (1000000000000<s.clock+if ticks<0 then (0:Int)else ticks)=false:=by simpa using hl
 clear e9
 go_enter Tryz.func137,Tryz.ntmps137
 go_wp2_with (first|(go_at_call 85;refine(jG kb qb mb ov ents ks draws s _ H.out).mono ?_;rintro e w' ⟨rfl,rfl⟩;rw[e1])|(go_at_call 86;refine(aB4 kb qb mb ov ents ks draws s _ kind ent _ H.out hbase f1 Hn.out ⟨hn1,f2⟩).mono ?_;rintro e w1 ⟨ov1,rfl,ho1,hm1,hk1⟩))
 all_goals
  go_ret2
  first
  | exact⟨rfl,ho1,ov1,hm1,hk1⟩
  | (have h00:ticks<0:=by assumption
     (try rw[if_pos h00,Int.add_zero]at hk1)
     (try simp only[if_pos h00,Int.add_zero])
     exact⟨rfl,ho1,ov1,hm1,hk1⟩)
  | (have h00:¬ticks<0:=by omega
     (try rw[if_neg h00]at hk1)
     (try simp only[if_neg h00])
     exact⟨rfl,ho1,ov1,hm1,hk1⟩)
theorem aB5(n:Int)(w:World)(hn:-9000000000000000000≤n∧n≤9000000000000000000) :
  Calls Tryz.prog 135 #[.int .i64 n] w fun e w'=>e=.returned (.int .i64 (fQ n))∧w'=w:=by
 obtain⟨n1,n2⟩:=hn
 by_cases h1:n < -1000000000
 ·go_enter Tryz.func135,Tryz.ntmps135
  go_wp2
  all_goals
   go_ret;exact⟨by simp[fQ];omega,rfl⟩
 ·by_cases h2:n≤1000000000
  ·go_enter Tryz.func135,Tryz.ntmps135
   go_wp2
   all_goals
    go_ret;exact⟨by simp[fQ];omega,rfl⟩
  ·go_enter Tryz.func135,Tryz.ntmps135
   go_wp2
   all_goals
    go_ret;exact⟨by simp[fQ];omega,rfl⟩
def fU(s:KS)(ticks kind ent:Int):KS×Int×Int:=
 if ¬(s.q.length<16∧s.next<1000000000)then (s,0,3)
 else if 1000000000000<s.clock+max ticks 0 then (s,0,4)
 else ({s with q:=dR ⟨s.clock+max ticks 0,s.next,kind,ent⟩ s.q,next:=s.next+1},s.next,0)
def iA(draws:List Int)(s:KS)(m:Int):KS×Int×Int:=
 match draws[s.taken]? with
 | none=>(s,0,5)
 | some d=>({s with taken:=s.taken+1},d % m,0)
theorem aA3{R:Nat→Prop}{base:Nat}(kb qb mb:Nat)(ov:Value)(ents:Int)(ks:List (List Ins))(draws:List Int)(s:KS)(ticks kind ent:Int)(w:World)(h:KerP R base w kb qb mb ov ents ks draws s)(hbase:base≤w.heap.size)(nk:Nat)(hok:KOk ents nk draws s)(ht:-1000000000≤ticks∧ticks≤1000000000) :
  Calls Tryz.prog 137 #[.pointer (some ⟨kb,0,none⟩),.int .i64 ticks,.int .i64 kind,.int .i64 ent] w
   fun e w'=>e=.returned (.tuple #[.int .i64 (fU s ticks kind ent).2.1,.int .i64 (fU s ticks kind ent).2.2])∧Only (bG kb qb mb ov) w w'∧∃ ov',Moved w ov ov'∧KerP R base w' kb qb mb ov' ents ks draws (fU s ticks kind ent).1:=by
 by_cases hf:s.q.length<16∧s.next<1000000000
 ·by_cases hl:1000000000000<s.clock+max ticks 0
  ·have e:fU s ticks kind ent=(s,0,4):=by simp only[fU];rw[if_neg (by simpa using hf),if_pos hl]
   rw[e];refine(xV kb qb mb ov ents ks draws s ticks kind ent w h hf hok.clock ht hl).mono ?_;rintro e' w' ⟨rfl,rfl⟩;exact⟨rfl,Only.refl _ _,ov,.inl rfl,h⟩
  ·have e:fU s ticks kind ent=({s with q:=dR ⟨s.clock+max ticks 0,s.next,kind,ent⟩ s.q,next:=s.next+1},s.next,0):=by simp only[fU];rw[if_neg (by simpa using hf),if_neg hl]
   rw[e];exact aC1 kb qb mb ov ents ks draws s ticks kind ent w h hbase hf hok.clock ht hl (fun x hx=>(hok.evs x hx).2.2.2.1) hok.next.1
 ·have e:fU s ticks kind ent=(s,0,3):=by simp only[fU];rw[if_pos hf]
  rw[e];refine(xU kb qb mb ov ents ks draws s ticks kind ent w h hf).mono ?_;rintro e' w' ⟨rfl,rfl⟩;exact⟨rfl,Only.refl _ _,ov,.inl rfl,h⟩
theorem aDp{R:Nat→Prop}{base:Nat}(kb qb mb:Nat)(ov:Value)(ents:Int)(ks:List (List Ins))(draws:List Int)(s:KS)(m:Int)(w:World)(h:KerP R base w kb qb mb ov ents ks draws s)(nk:Nat)(hok:KOk ents nk draws s)(hm:1≤m∧m≤1000000000)(hd:∀ d∈draws,0≤d∧d≤1000000000) :
  Calls Tryz.prog 136 #[.pointer (some ⟨kb,0,none⟩),.int .i64 m] w
   fun e w'=>e=.returned (.tuple #[.int .i64 (iA draws s m).2.1,.int .i64 (iA draws s m).2.2])∧Only (·=kb) w w'∧KerP R base w' kb qb mb ov ents ks draws (iA draws s m).1:=by
 rcases hdd:draws[s.taken]? with _|d
 ·have e:iA draws s m=(s,0,5):=by simp only[iA,hdd]
  rw[e];have hl:=List.getElem?_eq_none_iff.1 hdd;refine(aBz kb qb mb ov ents ks draws s m w h (by have:=hok.taken;omega)).mono ?_
  rintro e' w' ⟨rfl,hb⟩;exact⟨rfl,Only.new hb,h.below hb⟩
 ·have e:iA draws s m=({s with taken:=s.taken+1},d % m,0):=by simp only[iA,hdd]
  rw[e];exact aC0 kb qb mb ov ents ks draws s m d w h hdd hm (hd d (List.mem_of_getElem? hdd))
end Go.Proofs.YtndlmgocldckfaaGreat
