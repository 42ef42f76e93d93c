import Derived.Test.YtndlmgocldckfaaGreatG03
import Derived.Deep.RegionWith
import Derived.Test.YtndlmgocldckfaaGreatG01
namespace Go.Proofs.YtndlmgocldckfaaGreat
open Go.RowKit
set_option linter.unusedVariables false
set_option linter.unusedSimpArgs false
set_option maxRecDepth 100000
set_option maxHeartbeats 4000000
attribute [local go_sem] jJ oG oH
def fN(r:Option Nat)(l:List Ins):Value:=
 match r with
 | none=>.slice none 0 0
 | some c=>.slice (some ⟨c,0,none⟩) l.length (l.length+8)
structure LentTo(lo hi:Nat)(w:World)(g h b off k:Nat)(rs:List (Option Nat))(ks:List (List Ins)):Prop where
 len:rs.length=k
 le:k≤ks.length
 row:∀ (i:Nat) (r:Option Nat) (l:List Ins),rs[i]?=some r→ks[i]?=some l→w.cell? ⟨g,i,none⟩=some (fN r l)∧w.cell? ⟨h,i,none⟩=some (fN r l)
 spare:∀ i,k≤i→i<ks.length+8→w.cell? ⟨g,i,none⟩=some (.slice none 0 0)
 room:Room w g (ks.length+8)
 roomh:Room w h ks.length
 code:∀ (i c:Nat) (l:List Ins),rs[i]?=some (some c)→ks[i]?=some l→CodeAt w c 0 (fH l)∧Room w c ((l.length+8)*4)∧hi≤c∧c<w.heap.size∧c≠g∧c≠h
 none_:∀ (i:Nat) (l:List Ins),rs[i]?=some none→ks[i]?=some l→l=[]
 apart:∀ (i j c:Nat),rs[i]?=some (some c)→rs[j]?=some (some c)→i=j
 orig:∀ (i:Nat) (l:List Ins),ks[i]?=some l→∃ v,w.cell? ⟨b,off+i,none⟩=some v∧CodeV lo w v l∧(i<k→(rs[i]?=some none↔v=.slice none 0 0))
 lohi:lo≤hi
 glo:hi≤g
 hlo:hi≤h
 ghi:g<w.heap.size
 hhi:h<w.heap.size
 gh:g≠h
 blo:b<lo
theorem LentTo.below{lo hi:Nat}{w w':World}{g h b off k:Nat}{rs:List (Option Nat)}{ks:List (List Ins)}(x:LentTo lo hi w g h b off k rs ks)(hb:Below w.heap.size w w'):LentTo lo hi w' g h b off k rs ks:=by
 have hlt:lo≤w.heap.size:=Nat.le_trans x.lohi (Nat.le_trans x.glo (Nat.le_of_lt x.ghi));have hsz:=hb.size;refine⟨x.len,x.le,?_,?_,x.room.below hb x.ghi,x.roomh.below hb x.hhi,?_,x.none_,x.apart,?_,x.lohi,x.glo,x.hlo,by have:=x.ghi;omega,by have:=x.hhi;omega,x.gh,x.blo⟩
 ·intro i r l hr hl;obtain⟨h1,h2⟩:=x.row i r l hr hl;exact⟨aA hb h1 x.ghi,aA hb h2 x.hhi⟩
 ·intro i h1 h2;exact aA hb (x.spare i h1 h2) x.ghi
 ·intro i c l hr hl;obtain⟨h1,h2,h3,h4,h5,h6⟩:=x.code i c l hr hl;exact⟨h1.below hb h4,h2.below hb h4,h3,by omega,h5,h6⟩
 ·intro i l hl;obtain⟨v,h1,h2,h3⟩:=x.orig i l hl;exact⟨v,aA hb h1 (by have:=x.blo;omega),h2.below (hb.mono hlt),h3⟩
theorem LentTo.step{lo hi:Nat}{w:World}{g h b off k:Nat}{rs:List (Option Nat)}{ks:List (List Ins)}(x:LentTo lo hi w g h b off k rs ks)(hk:k<ks.length)(r:Option Nat)
  (hr:(r=none∧ks[k]=[]∧w.cell? ⟨b,off+k,none⟩=some (.slice none 0 0))∨∃ c,r=some c∧CodeAt w c 0 (fH ks[k])∧Room w c ((ks[k].length+8)*4)∧hi≤c∧c<w.heap.size∧c≠g∧c≠h∧(∀ i:Nat,rs[i]?≠some (some c))∧w.cell? ⟨b,off+k,none⟩≠some (.slice none 0 0)) :
  LentTo lo hi ((w.setCell ⟨g,k,none⟩ (fN r ks[k])).setCell ⟨h,k,none⟩ (fN r ks[k])) g h b off (k+1) (rs++[r]) ks:=by
 have hgh:=x.gh;have hlohi:=x.lohi;have hblo:=x.blo;have hglo:=x.glo;have hhlo:=x.hlo;have hsz:((w.setCell ⟨g,k,none⟩ (fN r ks[k])).setCell ⟨h,k,none⟩ (fN r ks[k])).heap.size=w.heap.size:=by simp[World.setCell]
 have look:∀ (i:Nat) s,(rs++[r])[i]?=some s→(i<k∧rs[i]?=some s)∨(i=k∧s=r):=by
  intro i s hs
  by_cases hi:i<k
  ·rw[List.getElem?_append_left (by rw[x.len];exact hi)]at hs;exact .inl ⟨hi,hs⟩
  ·rw[List.getElem?_append_right (by rw[x.len];omega),x.len]at hs
   have:i-k=0:=by
    have:=(List.getElem?_eq_some_iff.1 hs).1;simp at this;omega
   rw[this]at hs;simp at hs;exact .inr ⟨by omega,hs.symm⟩
 have other:∀ (b' o':Nat) ,(b'≠g∨o'≠k)→(b'≠h∨o'≠k)→((w.setCell ⟨g,k,none⟩ (fN r ks[k])).setCell ⟨h,k,none⟩ (fN r ks[k])).cell? ⟨b',o',none⟩=w.cell? ⟨b',o',none⟩:=by
  intro b' o' h1 h2;rw[World.cell?_setCell_other _ _ _ _ (by simp;omega),World.cell?_setCell_other _ _ _ _ (by simp;omega)]
 refine⟨by simp[x.len],by omega,?_,?_,(x.room.setCell _ _).setCell _ _,(x.roomh.setCell _ _).setCell _ _,?_,?_,?_,?_,x.lohi,x.glo,x.hlo,by rw[hsz];exact x.ghi,by rw[hsz];exact x.hhi,x.gh,x.blo⟩
 ·intro i s l hs hl;rcases look i s hs with⟨hi,hs'⟩|⟨rfl,rfl⟩
  ·obtain⟨h1,h2⟩:=x.row i s l hs' hl;exact⟨(other g i (by omega) (by omega)).trans h1,(other h i (by omega) (by omega)).trans h2⟩
  ·have:l=ks[i]:=by rw[List.getElem?_eq_getElem hk]at hl;exact(Option.some.inj hl).symm
   subst this;refine⟨?_,?_⟩
   ·rw[World.cell?_setCell_other _ _ _ _ (by simp;try omega)]
    exact World.cell?_setCell_same' _ _ _ (x.room i (by omega)).1
   ·exact World.cell?_setCell_same' _ _ _ ((x.roomh.setCell _ _) i hk).1
 ·intro i h1 h2;exact(other g i (by omega) (by omega)).trans (x.spare i (by omega) h2)
 ·intro i c l hs hl;rw[hsz];rcases look i _ hs with⟨hi,hs'⟩|⟨rfl,hs'⟩
  ·obtain⟨h1,h2,h3,h4,h5,h6⟩:=x.code i c l hs' hl;exact⟨(h1.setCell _ _ (Ne.symm h5)).setCell _ _ (Ne.symm h6),(h2.setCell _ _).setCell _ _,h3,h4,h5,h6⟩
  ·have:l=ks[i]:=by rw[List.getElem?_eq_getElem hk]at hl;exact(Option.some.inj hl).symm
   subst this;rcases hr with⟨rfl,_,_⟩|⟨c',rfl,h1,h2,h3,h4,h5,h6,h7,h8⟩
   ·simp at hs'
   ·simp at hs';subst hs';exact⟨(h1.setCell _ _ (Ne.symm h5)).setCell _ _ (Ne.symm h6),(h2.setCell _ _).setCell _ _,h3,h4,h5,h6⟩
 ·intro i l hs hl;rcases look i _ hs with⟨hi,hs'⟩|⟨rfl,hs'⟩
  ·exact x.none_ i l hs' hl
  ·have:l=ks[i]:=by rw[List.getElem?_eq_getElem hk]at hl;exact(Option.some.inj hl).symm
   subst this;rcases hr with⟨rfl,h0,_⟩|⟨c',rfl,_⟩
   ·exact h0
   ·simp at hs'
 ·intro i j c hi hj;rcases look i _ hi with⟨hi1,hi'⟩|⟨hi1,hi'⟩<;>rcases look j _ hj with⟨hj1,hj'⟩|⟨hj1,hj'⟩
  ·exact x.apart i j c hi' hj'
  ·rcases hr with⟨rfl,_,_⟩|⟨c',rfl,h1,h2,h3,h4,h5,h6,h7,h8⟩
   ·simp at hj'
   ·simp at hj';subst hj';exact absurd hi' (h7 i)
  ·rcases hr with⟨rfl,_,_⟩|⟨c',rfl,h1,h2,h3,h4,h5,h6,h7,h8⟩
   ·simp at hi'
   ·simp at hi';subst hi';exact absurd hj' (h7 j)
  ·omega
 ·intro i l hl;obtain⟨v,h1,h2,h3⟩:=x.orig i l hl;refine⟨v,(other b (off+i) (by omega) (by omega)).trans h1,(h2.setCell _ _ (by simp;omega)).setCell _ _ (by simp;omega),fun hi=>?_⟩
  by_cases hik:i<k
  ·rw[List.getElem?_append_left (by rw[x.len];exact hik)];exact h3 hik
  ·have:i=k:=by omega
   subst this;rw[List.getElem?_append_right (by rw[x.len];omega),x.len]
   simp;rcases hr with⟨rfl,_,h9⟩|⟨c',rfl,_,_,_,_,_,_,_,h9⟩
   ·rw[h9]at h1;simp at h1;simp[h1]
   ·simp;intro e;subst e;exact h9 h1
theorem LentTo.only{S:Nat→Prop}{lo hi:Nat}{w w':World}{g h b off k:Nat}{rs:List (Option Nat)}{ks:List (List Ins)}(x:LentTo lo hi w g h b off k rs ks)(ho:Only S w w')(hS:∀ k,S k→lo≤k∧k<hi):LentTo lo hi w' g h b off k rs ks:=by
 have hlt:lo≤w.heap.size:=Nat.le_trans x.lohi (Nat.le_trans x.glo (Nat.le_of_lt x.ghi));have hsz:=ho.size;have nhi:∀ c,hi≤c→¬S c:=fun c hc hs=>by have:=hS c hs;omega
 have nlo:∀ c,c<lo→¬S c:=fun c hc hs=>by have:=hS c hs;omega
 refine⟨x.len,x.le,?_,?_,x.room.only ho (nhi _ x.glo),x.roomh.only ho (nhi _ x.hlo),?_,x.none_,x.apart,?_,x.lohi,x.glo,x.hlo,by have:=x.ghi;omega,by have:=x.hhi;omega,x.gh,x.blo⟩
 ·intro i r l hr hl;obtain⟨h1,h2⟩:=x.row i r l hr hl;exact⟨ho.at h1 (nhi _ x.glo),ho.at h2 (nhi _ x.hlo)⟩
 ·intro i h1 h2;exact ho.at (x.spare i h1 h2) (nhi _ x.glo)
 ·intro i c l hr hl;obtain⟨h1,h2,h3,h4,h5,h6⟩:=x.code i c l hr hl;exact⟨h1.only ho (nhi _ h3),h2.only ho (nhi _ h3),h3,by omega,h5,h6⟩
 ·intro i l hl;obtain⟨v,h1,h2,h3⟩:=x.orig i l hl;exact⟨v,ho.at h1 (nlo _ x.blo),h2.below (ho.below hlt nlo),h3⟩
attribute [local go_sem] jJ oG oH
theorem jT(ents:Int)(w:World):Calls Tryz.prog 21 #[.agg #[.int .i64 ents,.slice none 0 0]] w
  fun e w'=>e=.returned (.tuple #[.agg #[.int .i64 ents,.slice none 0 0],.slice none 0 0])∧Below w.heap.size w w':=by
 go_enter Tryz.func21,Tryz.ntmps21
 go_wp2
 refine bodyPost_ret (v:=.tuple #[.agg #[.int .i64 ents,.slice none 0 0],.slice none 0 0]) (by simp[results,Tryz.results21,go_sem]) rfl ⟨rfl,?_⟩
 exact(((Below.refl _ _).alloc (Nat.le_refl _) _).alloc (by simp) _).alloc (by simp;omega) _
theorem wZ{B:Nat}(v:Value)(l:List Ins)(w:World)(hv:CodeV B w v l) :
  Calls Tryz.prog 55 #[v] w fun e w'=>∃ r sa sn sc,e=.returned (.slice sa sn sc)∧Hid (fN r l=.slice sa sn sc)∧Below w.heap.size w w' ∧
   ((r=none∧v=.slice none 0 0∧l=[])∨∃ c,r=some c∧v≠.slice none 0 0∧w.heap.size≤c∧c<w'.heap.size∧CodeAt w' c 0 (fH l)∧Room w' c ((l.length+8)*4)):=by
 obtain⟨hl,⟨rfl,rfl⟩|⟨b,off,cap,rfl,hb,hc⟩|⟨ea,ec,rfl,rfl⟩⟩:=hv
 ·refine(wY w).mono ?_;rintro e w' ⟨rfl,rfl⟩;exact⟨none,none,0,0,rfl,rfl,Below.refl _ _,.inl ⟨rfl,rfl,rfl⟩⟩
 ·refine(uM b off cap l w hl hc).mono ?_;rintro e w' ⟨c,h1,h2,rfl,h3,h4,h5⟩;exact⟨some c,_,_,_,rfl,rfl,h3,.inr ⟨c,rfl,by simp,h1,h2,h4,h5⟩⟩
 ·refine(sF ea ec w).mono ?_;rintro e w' ⟨c,h1,h2,rfl,h3,h4,h5⟩;exact⟨some c,_,_,_,rfl,rfl,h3,.inr ⟨c,rfl,by simp,h1,h2,h4,h5⟩⟩
theorem xA(W:World)(lo b off:Nat)(ks:List (List Ins))(T:TypeId)(hlo:lo≤W.heap.size)(hb:b<lo)(hK:KindsAt lo W b off ks) :
  LentTo lo W.heap.size ((W.alloc (.cells (madeCells #[.slice none 0 0] (ks.length+8)) T)).alloc (.cells (madeCells #[.slice none 0 0] ks.length) T)) W.heap.size (W.heap.size+1) b off 0 [] ks:=by
 have hb1:Below W.heap.size W (W.alloc (.cells (madeCells #[.slice none 0 0] (ks.length+8)) T)):=(Below.refl _ _).alloc (Nat.le_refl _) _;have hb2:=(Below.refl (W.heap.size+1) (W.alloc (.cells (madeCells #[.slice none 0 0] (ks.length+8)) T))).alloc (by simp) (.cells (madeCells #[.slice none 0 0] ks.length) T)
 have hb3:=hb1.trans (hb2.mono (by omega))
 refine⟨rfl,Nat.zero_le _,by simp,?_,(gL W _ _ T).below hb2 (by omega),?_,by simp,by simp,by simp,?_,hlo,Nat.le_refl _,by omega,by simp;omega,by simp,by omega,hb⟩
 ·intro i _ hi;have:=mA W (.slice none 0 0) (ks.length+8) T i (.slice none 0 0) (by rw[List.getElem?_replicate,if_pos hi])
  rw[Nat.zero_add]at this;exact aA hb2 this (by omega)
 ·have:=gL (W.alloc (.cells (madeCells #[.slice none 0 0] (ks.length+8)) T)) #[.slice none 0 0] ks.length T
  simpa using this
 ·intro i l hl;obtain⟨v,h1,h2⟩:=hK i l hl;exact⟨v,aA hb3 h1 (by omega),h2.below (hb3.mono hlo),by simp⟩
theorem fI(ents:Int)(ka:Addr)(b off cap:Nat)(ks:List (List Ins))(w:World)(hka:0<ks.length→ka=⟨b,off,none⟩)(hl:ks.length≤5864062014805)(hbw:b<w.heap.size)(hK:KindsAt w.heap.size w b off ks) :
  Calls Tryz.prog 21 #[.agg #[.int .i64 ents,.slice (some ka) ks.length cap]] w
   fun e w'=>∃ g h rs,e=.returned (.tuple #[.agg #[.int .i64 ents,.slice (some ⟨g,0,none⟩) ks.length (ks.length+8)],.slice (some ⟨h,0,none⟩) ks.length ks.length]) ∧
    Below w.heap.size w w'∧LentTo w.heap.size (w.heap.size+1+1+1) w' g h b off ks.length rs ks:=by
 go_enter Tryz.func21,Tryz.ntmps21
 go_wp2_with (first
  | (at_make;refine bL _ rfl (.tmp 21) (.tmp 21) 36 rfl 60 (.slice none 0 0) 1 24 Tryz.underlying36 Tryz.info60 _ _ _ _ (ks.length+8) rfl rfl (by simp) (by simp) (by omega) (by omega) ?_)
  | (at_make;refine bL _ rfl (.tmp 23) (.tmp 23) 36 rfl 60 (.slice none 0 0) 1 24 Tryz.underlying36 Tryz.info60 _ _ _ _ ks.length rfl rfl (by simp) (by simp) (by omega) (by omega) ?_))
 go_loopw [8,9] (fun i _ wr=>∃ (k:Nat) (rs:List (Option Nat)),i=.int .i64 k∧Below w.heap.size w wr∧LentTo w.heap.size (w.heap.size+1+1+1) wr (w.heap.size+1+1+1) (w.heap.size+1+1+1+1) b off k rs ks ∧
   wr.cell? ⟨w.heap.size,1,none⟩=some (.slice (some ka) ks.length cap)∧wr.cell? ⟨w.heap.size+1+1,0,none⟩=some (.int .i64 ents)∧Room wr (w.heap.size+1) 2∧Room wr (w.heap.size+1+1) 2) (fun i _ _=>ks.length-(intOf i).toNat)
 case atStart=>
  obtain⟨W,hW⟩:∃ W,W=((w.alloc (Obj.cells #[Value.int IntKind.i64 ents,Value.slice (some ka) ks.length cap] 38)).alloc (Obj.cells #[Value.int IntKind.i64 0,Value.slice none 0 0] 38)).alloc (Obj.cells #[Value.int IntKind.i64 ents,Value.slice none 0 0] 38):=⟨_,rfl⟩;have hWs:W.heap.size=w.heap.size+1+1+1:=by rw[hW];simp
  have hWb:Below w.heap.size w W:=by rw[hW];exact(((Below.refl _ _).alloc (Nat.le_refl _) _).alloc (by simp) _).alloc (by simp;omega) _
  have hW1:W.cell? ⟨w.heap.size,1,none⟩=some (.slice (some ka) ks.length cap):=by rw[hW];simp[go_sem]
  have hW2:W.cell? ⟨w.heap.size+1+1,0,none⟩=some (.int .i64 ents):=by rw[hW];simp[go_sem]
  have hW3:Room W (w.heap.size+1) 2:=by
   rw[hW];intro j hj;have:j=0∨j=1:=by omega
   rcases this with rfl|rfl<;>simp[go_sem]
  have hW4:Room W (w.heap.size+1+1) 2:=by
   rw[hW];intro j hj;have:j=0∨j=1:=by omega
   rcases this with rfl|rfl<;>simp[go_sem]
  have hS:=xA W w.heap.size b off ks 60 (by omega) hbw (hK.below hWb hbw (Nat.le_refl _))
  have hB:=((Below.refl W.heap.size W).alloc (Nat.le_refl _) (.cells (madeCells #[.slice none 0 0] (ks.length+8)) 60)).alloc (by simp) (.cells (madeCells #[.slice none 0 0] ks.length) 60)
  rw[hWs]at hS hB;rw[←hW];exact⟨0,[],rfl,hWb.trans (hB.mono (by omega)),hS,aA hB hW1 (by omega),aA hB hW2 (by omega),hW3.below hB (by omega),hW4.below hB (by omega)⟩
 case round=>
  obtain⟨k,rs,rfl,hbel,hL,hm1,ho0,hR1,hR2⟩:=hrel;have hz:=hL.hhi
  by_cases hlt:k<ks.length
  ·obtain rfl:=hka (by omega)
   obtain⟨v,hv0,hv,_⟩:=hL.orig k ks[k] (by simp[hlt])
   go_wp2_with fail
   refine(wZ v _ _ hv).mono ?_;rintro e w1 ⟨r,sa,sn,sc,rfl,hcv,hb1,hr⟩;have hL1:=hL.below hb1;obtain⟨gs0,gf0⟩:=hL1.room k (by omega)
   obtain⟨gs1,gf1⟩:=hL1.roomh k (by omega)
   obtain⟨u0,hu0⟩:=Option.isSome_iff_exists.1 gs0;obtain⟨u1,hu1⟩:=Option.isSome_iff_exists.1 gs1;clear gs0 gs1
   go_wp2
   go_roundw
   case rel=>
    have hst:=hL1.step hlt r (by
     rcases hr with⟨rfl,rfl,h0⟩|⟨c,rfl,hne,h1,h2,h3,h4⟩
     ·exact .inl ⟨rfl,h0,aA hb1 hv0 (by omega)⟩
     ·refine .inr ⟨c,rfl,h3,h4,by omega,h2,by omega,by omega,?_,?_⟩
      ·intro i hi;have hik:i<ks.length:=by have:=(List.getElem?_eq_some_iff.1 hi).1;rw[hL.len]at this;omega
       have:=(hL.code i c ks[i] hi (by simp[hik])).2.2.2.1
       omega
      ·rw[aA hb1 hv0 (by omega)];intro e;exact hne (Option.some.inj e))
    rw[hcv.out]at hst;have hbz:=hb1.size;refine⟨k+1,rs++[r],by go_num,((hbel.trans (hb1.mono (by omega))).setCell (by simp;omega) _).setCell (by simp;omega) _,hst,?_,?_,?_,?_⟩
    ·rw[World.cell?_setCell_other _ _ _ _ (by simp;try omega),World.cell?_setCell_other _ _ _ _ (by simp;try omega)];exact aA hb1 hm1 (by omega)
    ·rw[World.cell?_setCell_other _ _ _ _ (by simp;try omega),World.cell?_setCell_other _ _ _ _ (by simp;try omega)];exact aA hb1 ho0 (by omega)
    ·exact((hR1.below hb1 (by omega)).setCell _ _).setCell _ _
    ·exact((hR2.below hb1 (by omega)).setCell _ _).setCell _ _
   case measure=>simp[intOf];omega
  ·have hk:k=ks.length:=by have:=hL.le;omega
   subst hk;obtain⟨s0,f0⟩:=hR2 1 (by omega)
   obtain⟨s1,f1⟩:=hR1 0 (by omega)
   obtain⟨s2,f2⟩:=hR1 1 (by omega)
   obtain⟨u0,hu0⟩:=Option.isSome_iff_exists.1 s0;obtain⟨u1,hu1⟩:=Option.isSome_iff_exists.1 s1;obtain⟨u2,hu2⟩:=Option.isSome_iff_exists.1 s2;clear s0 s1 s2
   go_wp2
   refine bodyPost_ret (v:=.tuple #[.agg #[.int .i64 ents,.slice (some ⟨w.heap.size+1+1+1,0,none⟩) ks.length (ks.length+8)],.slice (some ⟨w.heap.size+1+1+1+1,0,none⟩) ks.length ks.length]) (by simp[results,Tryz.results21,go_sem,hu1,hu2]) rfl ⟨_,_,rs,rfl,?_,?_⟩
   ·exact((hbel.setCell (by simp;omega) _).setCell (by simp) _).setCell (by simp) _
   ·refine hL.only (S:=fun k=>k=w.heap.size+1∨k=w.heap.size+1+1) ?_ (by intro k hk;omega)
    exact(((Only.refl _ _).setCell (.inr rfl) _).setCell (.inl rfl) _).setCell (.inl rfl) _
attribute [local go_sem] jJ oG oH
structure WholeTo(w:World)(g n k:Nat)(rs:List (Option Nat))(wr:World):Prop where
 only:Only (fun x=>x=g∨∃ i:Nat,rs[i]?=some (some x)) w wr
 cells:∀ j,k≤j→j<n+8→wr.cell? ⟨g,j,none⟩=w.cell? ⟨g,j,none⟩
 room:Room wr g (n+8)
 codes:∀ i c:Nat,k≤i→rs[i]?=some (some c)→wr.heap[c]?=w.heap[c]?
theorem WholeTo.below{w wr w2:World}{g n k:Nat}{rs:List (Option Nat)}(x:WholeTo w g n k rs wr)(hg:g<w.heap.size)(hc:∀ i c:Nat,rs[i]?=some (some c)→c<w.heap.size)(hb:Below wr.heap.size wr w2):WholeTo w g n k rs w2:=by
 have hs:=x.only.size;refine⟨x.only.trans (Only.new hb),?_,x.room.below hb (by omega),?_⟩
 ·intro j h1 h2;rw[←x.cells j h1 h2];exact hb.cell (p:=⟨g,j,none⟩) (by show g<_;omega)
 ·intro i c h1 h2;rw[←x.codes i c h1 h2];exact hb.block c (by have:=hc i c h2;omega)
theorem WholeTo.step{w wr w3:World}{g n k:Nat}{rs:List (Option Nat)}(x:WholeTo w g n k rs wr)(hg:g<w.heap.size)(hc:∀ i c:Nat,rs[i]?=some (some c)→c<w.heap.size∧c≠g)
  (ha:∀ i j c:Nat,rs[i]?=some (some c)→rs[j]?=some (some c)→i=j) (ho:Only (fun y=>rs[k]?=some (some y)) wr w3) (v:Value):WholeTo w g n (k+1) rs (w3.setCell ⟨g,k,none⟩ v):=by
 have hs:=x.only.size;have hgk:¬rs[k]?=some (some g):=fun h=>(hc k g h).2 rfl;have hcell:∀ j v',wr.cell? ⟨g,j,none⟩=some v'→w3.cell? ⟨g,j,none⟩=some v':=fun j v' h=>ho.at h hgk;refine⟨(x.only.trans (ho.mono fun y _ hy=>.inr ⟨k,hy⟩)).setCell (.inl rfl) _,?_,(x.room.only ho hgk).setCell _ _,?_⟩
 ·intro j h1 h2;rw[World.cell?_setCell_other _ _ _ _ (by simp;try omega)]
  obtain⟨u,hu⟩:=Option.isSome_iff_exists.1 (x.room j h2).1;rw[hcell j u hu,←x.cells j (by omega) h2,hu]
 ·intro i c h1 h2;rw[Below.heap_setCell _ _ _ _ (by exact(hc i c h2).2),←x.codes i c (by omega) h2]
  refine ho.block c (by have:=(hc i c h2).1;omega) fun h=>?_
  have:=ha i k c h2 h;omega
theorem nI(lo:Nat)(r:Option Nat)(l:List Ins)(sa va:Option Addr)(sc vc:Nat)(w:World)(hs:Hid (fN r l=.slice sa l.length sc))(hv:CodeV lo w (.slice va l.length vc) l)
  (hn:r=none↔Value.slice va l.length vc=.slice none 0 0) (hc:∀ c,r=some c→CodeAt w c 0 (fH l)∧Room w c ((l.length+8)*4)∧lo≤c∧c<w.heap.size) :
  Calls Tryz.prog 59 #[.slice sa l.length sc,.slice va l.length vc] w fun e w'=>e=.returned (.bool true)∧Only (fun x=>r=some x) w w'∧∀ c,r=some c→CodeAt w' c 0 (List.replicate (l.length+8) nO):=by
 cases r with
 | none=>
  have h0:=hn.1 rfl;rw[h0];refine(uN _ w).mono ?_;rintro e w' ⟨rfl,rfl⟩;exact⟨rfl,Only.refl _ _,by simp⟩
 | some c=>
  obtain⟨h1,h2,h3,h4⟩:=hc c rfl;have h0:¬Value.slice va l.length vc=.slice none 0 0:=fun h=>by simpa using hn.2 h
  obtain⟨hl,⟨h,_⟩|⟨b,off,cap,hb,hlo,hcode⟩|⟨ea,ec,he,rfl⟩⟩:=hv
  ·exact absurd h h0
  ·rw[←hs.out,hb];refine(sH b off cap c l w hl hcode (by omega) h1 h2 h4).mono ?_
   rintro e w' ⟨rfl,h5,h6⟩;refine⟨rfl,h5.mono (by intro k _ hk;subst hk;rfl),?_⟩
   intro c' hc';cases hc';exact h6
  ·rw[←hs.out,he];refine(qT ea ec c w h1 h2 h4).mono ?_;rintro e w' ⟨rfl,h5,h6⟩;refine⟨rfl,h5.mono (by intro k _ hk;subst hk;rfl),?_⟩
   intro c' hc';cases hc';exact h6
theorem iR(ents:Int)(o v:Value)(w:World):Calls Tryz.prog 24 #[.agg #[.int .i64 ents,o],v,.agg #[.int .i64 ents,.slice none 0 0]] w
  fun e w'=>e=.returned (.bool true)∧Below w.heap.size w w':=by
 go_enter Tryz.func24,Tryz.ntmps24
 go_wp2
 go_ret;exact⟨rfl,((Below.refl _ _).alloc (Nat.le_refl _) _).alloc (by simp) _⟩
theorem eP(ents:Int)(ka:Addr)(lo hi g h b off cap:Nat)(rs:List (Option Nat))(ks:List (List Ins))(w:World)(hka:0<ks.length→ka=⟨b,off,none⟩)(hl:ks.length≤5864062014805)(x:LentTo lo hi w g h b off ks.length rs ks) :
  Calls Tryz.prog 24 #[.agg #[.int .i64 ents,.slice (some ⟨g,0,none⟩) ks.length (ks.length+8)],.slice (some ⟨h,0,none⟩) ks.length ks.length,.agg #[.int .i64 ents,.slice (some ka) ks.length cap]] w
   fun e w'=>e=.returned (.bool true)∧Only (fun y=>y=g∨∃ i:Nat,rs[i]?=some (some y)) w w':=by
 have hgw:=x.ghi;have hhw:=x.hhi;have hblo:=x.blo;have hlohi:=x.lohi;have hglo:=x.glo;have hhlo:=x.hlo;have hgh:=x.gh;have hcw:∀ i c:Nat,rs[i]?=some (some c)→c<w.heap.size∧c≠g∧c≠h∧hi≤c:=by
  intro i c hr;have hi':i<ks.length:=by have:=(List.getElem?_eq_some_iff.1 hr).1;rw[x.len]at this;exact this
  have:=x.code i c ks[i] hr (by simp[hi'])
  exact⟨this.2.2.2.1,this.2.2.2.2.1,this.2.2.2.2.2,this.2.2.1⟩
 have Hcw:=aB hcw;clear hcw;have hns:∀ y,y<hi→¬(y=g∨∃ i:Nat,rs[i]?=some (some y)):=by
  rintro y hy (rfl|⟨i,hi'⟩)
  ·omega
  ·have:=Hcw.out i y hi';omega
 have hnh:¬(h=g∨∃ i:Nat,rs[i]?=some (some h)):=by
  rintro (h0|⟨i,hi'⟩)
  ·omega
  ·have:=Hcw.out i h hi';omega
 have Hns:=aB hns;have Hnh:=aB hnh;clear hns hnh
 go_enter Tryz.func24,Tryz.ntmps24
 go_wp2
 go_loopw [9,10,11,12,13] (fun ok i _ _ _ wr=>∃ k:Nat,k≤ks.length+8∧i=.int .i64 k∧ok=.bool true∧WholeTo w g ks.length k rs wr∧wr.cell? ⟨w.heap.size+1,1,none⟩=some (.slice (some ka) ks.length cap)∧w.heap.size+1<wr.heap.size) (fun _ i _ _ _ _=>ks.length+8-(intOf i).toNat)
 case atStart=>
  have hb:Below w.heap.size w _:=((Below.refl w.heap.size w).alloc (Nat.le_refl _) (.cells #[.int .i64 ents,.slice (some ⟨g,0,none⟩) ks.length (ks.length+8)] 38)).alloc (by simp) (.cells #[.int .i64 ents,.slice (some ka) ks.length cap] 38)
  refine⟨0,by omega,rfl,rfl,WholeTo.below ⟨Only.refl _ _,fun _ _ _=>rfl,x.room,fun _ _ _ _=>rfl⟩ hgw (fun i c hr=>(Hcw.out i c hr).1) hb,by simp[go_sem],by simp⟩
 case round=>
  obtain⟨k,hk,rfl,rfl,hW,hm1,hz⟩:=hrel;have hson:=hW.only.size
  by_cases hlt:k<ks.length
  ·obtain rfl:=hka (by omega)
   obtain⟨hs0,hf0⟩:=hW.room k (by omega)
   have hrk:rs[k]?=some (rs[k]'(by rw[x.len];exact hlt)):=by simp[x.len,hlt]
   have hlk:ks[k]?=some ks[k]:=by simp[hlt]
   generalize rs[k]'(by rw[x.len];exact hlt)=r at hrk
   generalize ks[k]=l at hlk;obtain⟨hg0,hh0⟩:=x.row k r l hrk hlk;obtain⟨v,hb0,hv,hiff⟩:=x.orig k l hlk;have hiff:=hiff hlt;obtain⟨sa,sc,hcv⟩:∃ sa sc,fN r l=.slice sa l.length sc:=by
    cases r with
    | none=>rw[x.none_ k l hrk hlk];exact⟨_,_,rfl⟩
    | some c=>exact⟨_,_,rfl⟩
   obtain⟨va,vc,rfl⟩:∃ va vc,v=.slice va l.length vc:=by
    obtain⟨_,⟨rfl,rfl⟩|⟨b',off',cap',rfl,_,_⟩|⟨ea,ec,rfl,rfl⟩⟩:=hv
    ·exact⟨_,_,rfl⟩
    ·exact⟨_,_,rfl⟩
    ·exact⟨_,_,rfl⟩
   have Hn:Hid (r=none↔Value.slice va l.length vc=.slice none 0 0):=by
    show _↔_;rw[←hiff,hrk];simp
   rw[hcv]at hg0 hh0;have Hcv:=aB hcv;have hg0:=(hW.cells k (Nat.le_refl _) (by omega)).trans hg0
   have hh0:=hW.only.at hh0 Hnh.out;have hb0:=hW.only.at hb0 (Hns.out b (by omega))
   have Hv:Hid (∀ W,Below wr.heap.size wr W→CodeV lo W (.slice va l.length vc) l):=by
    intro W hb;exact(hv.below (hW.only.below (by omega) (fun y hy=>Hns.out y (by omega)))).below (hb.mono (by omega))
   have Hc:Hid (∀ W,Below wr.heap.size wr W→∀ c,r=some c→CodeAt W c 0 (fH l)∧Room W c ((l.length+8)*4)∧lo≤c∧c<W.heap.size):=by
    intro W hb c hc;subst hc;obtain⟨h1,h2,h3,h4,h5,h6⟩:=x.code k c l hrk hlk;have hblk:=hW.codes k c (Nat.le_refl _) hrk;have hbs:=hb.size;have hon:Only (fun y=>y≠c) w wr:=⟨hW.only.os,hW.only.tape,hW.only.output,hW.only.size,fun y hy hn=>by simp at hn;subst hn;exact hblk⟩
    exact⟨(h1.only hon (by simp)).below hb (by omega),(h2.only hon (by simp)).below hb (by omega),by omega,by omega⟩
   have HK:Hid (rs[k]?=some r):=hrk;have Hlk:Hid (ks[k]?=some l):=hlk;have Hll:Hid (l.length≤4398046511104):=hv.1;clear hcv hv hrk hlk hiff;have Hx:=aB x;clear x
   by_cases h0:l.length=0
   ·have h0':((l.length:Int)==0)=true:=by simp[h0]
    clear h0
    go_wp2
    go_quiet (fail)
    go_wp2
    go_region_with (go_at_call 59;refine(nI lo r l _ _ _ _ _ Hcv (Hv.out _ (by exact(below_drewN (Below.refl _ _) nq).drew)) Hn.out (Hc.out _ (by exact(below_drewN (Below.refl _ _) nq).drew))).mono ?_;rintro e w3 ⟨rfl,ho3,hone⟩)
    all_goals
     have ho4:Only (fun y=>r=some y) wr w3:=(Only.new ((below_drewN (Below.refl _ _) nq).drew)).trans ho3;clear hone ho3;have hng:¬r=some g:=fun e=>(Hcw.out k g (e▸HK.out)).2.1 rfl;have hg3:=ho4.at hg0 hng;have hf3:=((hW.room.only ho4 hng) k (by omega)).2
     have hmm:=ho4.at hm1 (fun e=>by have:=(Hcw.out k _ (e▸HK.out)).1;omega)
     have hsz3:=ho4.size;clear hng
     go_wp2
     go_roundw
     case rel=>
      refine⟨k+1,by omega,by go_num,rfl,hW.step hgw (fun i c hr=>⟨(Hcw.out i c hr).1,(Hcw.out i c hr).2.1⟩) Hx.out.apart (ho4.mono fun y _ hy=>by rw[HK.out,hy]) _,?_,by simp[World.setCell];omega⟩
      rw[World.cell?_setCell_other _ _ _ _ (by simp;try omega)];exact hmm
     case measure=>simp[intOf];omega
   ·have h0':((l.length:Int)==0)=false:=by simp;intro e;exact h0 (by simp[e])
    obtain⟨c,rfl⟩:∃ c,r=some c:=by
     cases r with
     | none=>
      have:=Hx.out.none_ k l HK.out (by obtain⟨l',hl',hle⟩:∃ l',ks[k]?=some l'∧l'=l:=⟨l,Hlk.out,rfl⟩;rw[hl',hle])
      rw[this]at h0;simp at h0
     | some c=>exact⟨c,rfl⟩
    obtain⟨rfl,rfl⟩:sa=some ⟨c,0,none⟩∧sc=l.length+8:=by
     have:=Hcv.out;simp[fN]at this;exact⟨this.1.symm,this.2.symm⟩
    have hpos:0<l.length:=by omega
    clear h0
    go_wp2
    go_quiet (fail)
    go_wp2
    go_region_with (go_at_call 59;refine(nI lo (some c) l _ _ _ _ _ Hcv (Hv.out _ (by exact(below_drewN (Below.refl _ _) nq).drew)) Hn.out (Hc.out _ (by exact(below_drewN (Below.refl _ _) nq).drew))).mono ?_;rintro e w3 ⟨rfl,ho3,hone⟩)
    all_goals
     have ho4:Only (fun y=>some c=some y) wr w3:=(Only.new ((below_drewN (Below.refl _ _) nq).drew)).trans ho3;obtain⟨q0,q1,q2,q3⟩:=hone c rfl 0 nO (by simp)
     simp only[Nat.zero_mul,Nat.zero_add,nO]at q0 q1 q2 q3;clear hone ho3;have hng:¬some c=some g:=fun e=>(Hcw.out k c HK.out).2.1 (Option.some.inj e);have hg3:=ho4.at hg0 hng;have hf3:=((hW.room.only ho4 hng) k (by omega)).2
     have hmm:=ho4.at hm1 (fun e=>by have:=(Hcw.out k c HK.out).1;have:=Option.some.inj e;omega)
     have hsz3:=ho4.size;clear hng
     go_wp2
     go_roundw
     case rel=>
      refine⟨k+1,by omega,by go_num,rfl,hW.step hgw (fun i c hr=>⟨(Hcw.out i c hr).1,(Hcw.out i c hr).2.1⟩) Hx.out.apart (ho4.mono fun y _ hy=>by rw[HK.out,hy]) _,?_,by simp[World.setCell];omega⟩
      rw[World.cell?_setCell_other _ _ _ _ (by simp;try omega)];exact hmm
     case measure=>simp[intOf];omega
  ·by_cases hlt2:k<ks.length+8
   ·obtain⟨hs0,hf0⟩:=hW.room k (by omega)
    have hg0:=(hW.cells k (Nat.le_refl _) (by omega)).trans (x.spare k (by omega) hlt2)
    have Hx:=aB x;clear x hs0
    go_wp2
    go_roundw
    case rel=>
     refine⟨k+1,by omega,by go_num,rfl,hW.step hgw (fun i c hr=>⟨(Hcw.out i c hr).1,(Hcw.out i c hr).2.1⟩) Hx.out.apart (Only.refl _ _) _,?_,by simp[World.setCell];omega⟩
     rw[World.cell?_setCell_other _ _ _ _ (by simp;try omega)];exact hm1
    case measure=>simp[intOf];omega
   ·go_wp2
    go_ret;exact⟨rfl,hW.only⟩
theorem aAc{w:World}{c:Nat}{l:List Ins}(h:CodeAt w c 0 (fH l)):CodeAt w c 0 l:=by
 intro i x hx;have hi:i<l.length:=(List.getElem?_eq_some_iff.1 hx).1;refine h i x ?_;rw[sE l i hi];rw[List.getElem?_eq_getElem hi]at hx;exact hx
theorem LentTo.kinds{lo hi:Nat}{w:World}{g h b off:Nat}{rs:List (Option Nat)}{ks:List (List Ins)}(x:LentTo lo hi w g h b off ks.length rs ks):KindsAt w.heap.size w g 0 ks:=by
 intro i l hl;have hi:i<ks.length:=(List.getElem?_eq_some_iff.1 hl).1;have hr:rs[i]?=some (rs[i]'(by rw[x.len];exact hi)):=by simp[x.len,hi]
 generalize rs[i]'(by rw[x.len];exact hi)=r at hr
 obtain⟨h1,_⟩:=x.row i r l hr hl;obtain⟨v,_,hv,_⟩:=x.orig i l hl;refine⟨_,by rw[Nat.zero_add];exact h1,hv.1,?_⟩
 cases r with
 | none=>exact .inl ⟨rfl,x.none_ i l hr hl⟩
 | some c=>
  obtain⟨c1,c2,c3,c4,c5,c6⟩:=x.code i c l hr hl;exact .inr (.inl ⟨c,0,l.length+8,rfl,c4,aAc c1⟩)
theorem nR{B:Nat}{w:World}{ka:Addr}{kb koff kcap:Nat}{ks:List (List Ins)}(hka:0<ks.length→ka=⟨kb,koff,none⟩)(hkl:ks.length≤5864062014805)(hkb:kb<B)(hK:KindsAt B w kb koff ks):KindsV B w (.slice (some ka) ks.length kcap) ks:=by
 by_cases h0:0<ks.length
 ·rw[hka h0];exact⟨hkl,.inr (.inl ⟨kb,koff,kcap,rfl,hkb,hK⟩)⟩
 ·have:ks=[]:=List.eq_nil_of_length_eq_zero (by omega)
  subst this;exact⟨by simp,.inr (.inr ⟨ka,kcap,rfl,rfl⟩)⟩
theorem vL{w:World}{g:Nat}{l:List Int}(h:RowAt w g 0 (fG l)):RowAt w g 0 (ints l):=by
 intro j v hv;refine h j v ?_;have hj:j<(ints l).length:=(List.getElem?_eq_some_iff.1 hv).1;rw[fG,List.getElem?_append_left hj];exact hv
def LentV(lo:Nat)(w:World)(v:Value)(sa:Option Addr)(sc:Nat)(l:List Int):Prop:=
 (v=.slice none 0 0∧sa=none∧sc=0∧l=[])∨∃ g,sa=some ⟨g,0,none⟩∧sc=l.length+8∧v≠.slice none 0 0∧lo≤g∧g<w.heap.size∧RowAt w g 0 (fG l)∧Room w g (l.length+8)
def IntsX(B:Nat)(w:World)(v:Value)(l:List Int):Prop:=IntsIn (·<B) w v l∨∃ a cap,v=.slice (some a) 0 cap∧l=[]
theorem IntsX.form{B:Nat}{w:World}{v:Value}{l:List Int}(h:IntsX B w v l):∃ sa sc,v=.slice sa l.length sc:=by
 rcases h with h|⟨a,c,rfl,rfl⟩
 ·exact h.form
 ·exact⟨_,_,rfl⟩
theorem IntsX.len{B:Nat}{w:World}{v:Value}{l:List Int}(h:IntsX B w v l):l.length≤17592186044416:=by
 rcases h with h|⟨a,c,rfl,rfl⟩
 ·exact h.1
 ·simp
theorem IntsX.below{B:Nat}{w w':World}{v:Value}{l:List Int}(h:IntsX B w v l)(hb:Below B w w'):IntsX B w' v l:=by
 rcases h with h|h
 ·exact .inl (h.only (Only.ofBelow (S:=(B≤·)) hb (fun k h _=>h)) (fun b hb=>by omega))
 ·exact .inr h
theorem IntsX.mono{B B':Nat}{w:World}{v:Value}{l:List Int}(h:IntsX B w v l)(hB:B≤B'):IntsX B' w v l:=by
 rcases h with h|h
 ·exact .inl (h.mono (fun b hb=>by omega))
 ·exact .inr h
theorem dZ{B:Nat}(v:Value)(l:List Int)(w:World)(hv:IntsX B w v l) :
  Calls Tryz.prog 25 #[v] w fun e w'=>∃ sa sc,e=.returned (.slice sa l.length sc)∧Below w.heap.size w w'∧LentV w.heap.size w' v sa sc l:=by
 obtain⟨hl,⟨rfl,rfl⟩|⟨b,off,cap,rfl,hb,hc⟩⟩|⟨ea,ec,rfl,rfl⟩:=hv
 ·refine(wV w).mono ?_;rintro e w' ⟨rfl,rfl⟩;exact⟨none,0,rfl,Below.refl _ _,.inl ⟨rfl,rfl,rfl,rfl⟩⟩
 ·refine(uK b off cap l w hl hc).mono ?_;rintro e w' ⟨g,h1,h2,rfl,h3,h4,h5⟩;exact⟨_,_,rfl,h3,.inr ⟨g,rfl,rfl,by simp,h1,h2,h4,h5⟩⟩
 ·refine(pU ea ec [] w (by simp) (fun j v hv=>by simp[ints]at hv)).mono ?_
  rintro e w' ⟨g,h1,h2,rfl,h3,h4,h5⟩;exact⟨_,_,rfl,h3,.inr ⟨g,rfl,rfl,by simp,h1,h2,h4,h5⟩⟩
theorem LentV.below{lo:Nat}{w w':World}{v:Value}{sa:Option Addr}{sc:Nat}{l:List Int}(h:LentV lo w v sa sc l)(hb:Below w.heap.size w w'):LentV lo w' v sa sc l:=by
 rcases h with h|⟨g,h1,h2,h3,h4,h5,h6,h7⟩
 ·exact .inl h
 ·exact .inr ⟨g,h1,h2,h3,h4,by have:=hb.size;omega,h6.below hb h5,h7.below hb h5⟩
theorem LentV.only{S:Nat→Prop}{lo:Nat}{w w':World}{v:Value}{sa:Option Addr}{sc:Nat}{l:List Int}(h:LentV lo w v sa sc l)(ho:Only S w w')(hS:∀ b,lo≤b→¬S b):LentV lo w' v sa sc l:=by
 rcases h with h|⟨g,h1,h2,h3,h4,h5,h6,h7⟩
 ·exact .inl h
 ·exact .inr ⟨g,h1,h2,h3,h4,by have:=ho.size;omega,h6.only ho (hS g h4),h7.only ho (hS g h4)⟩
theorem LentV.ints{lo:Nat}{w:World}{v:Value}{sa:Option Addr}{sc:Nat}{l:List Int}(h:LentV lo w v sa sc l)(hl:l.length≤17592186044416):IntsIn (·<w.heap.size) w (.slice sa l.length sc) l:=by
 rcases h with⟨_,rfl,rfl,rfl⟩|⟨g,rfl,rfl,h3,h4,h5,h6,h7⟩
 ·exact⟨hl,.inl ⟨rfl,rfl⟩⟩
 ·exact⟨hl,.inr ⟨g,0,_,rfl,h5,vL h6⟩⟩
theorem eI(lo hi:Nat)(v:Value)(l:List Int)(sa:Option Addr)(sc:Nat)(w:World)(hv:IntsX lo w v l)(h:LentV lo w v sa sc l)(hhi:∀ g,sa=some ⟨g,0,none⟩→g<hi) :
  Calls Tryz.prog 28 #[.slice sa l.length sc,v] w fun e w'=>e=.returned (.bool true)∧Only (fun x=>lo≤x∧x<hi) w w':=by
 rcases h with⟨rfl,rfl,rfl,rfl⟩|⟨g,rfl,rfl,h3,h4,h5,h6,h7⟩
 ·refine(nG _ w).mono ?_;rintro e w' ⟨rfl,rfl⟩;exact⟨rfl,Only.refl _ _⟩
 ·obtain⟨hl,⟨h0,_⟩|⟨b,off,cap,rfl,hb,hc⟩⟩|⟨ea,ec,rfl,rfl⟩:=hv
  ·exact absurd h0 h3
  ·refine(rY b off cap g 0 l w hl hc (by omega) h6 h7).mono ?_
   rintro e w' ⟨rfl,ho⟩;refine⟨rfl,ho.mono ?_⟩;intro k _ hk;subst hk;exact⟨h4,hhi _ rfl⟩
  ·refine(nF ea (g+1) 0 ec g 0 [] w (fun h=>by simp at h) (by simp) (fun j v hv=>by simp[ints]at hv) (by omega) h6 h7).mono ?_
   rintro e w' ⟨rfl,ho⟩;refine⟨rfl,ho.mono ?_⟩;intro k _ hk;subst hk;exact⟨h4,hhi _ rfl⟩
end Go.Proofs.YtndlmgocldckfaaGreat
