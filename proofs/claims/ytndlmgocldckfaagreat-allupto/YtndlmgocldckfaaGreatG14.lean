import Derived.Test.YtndlmgocldckfaaGreatG13
import Derived.Test.YtndlmgocldckfaaGreatG03
import Derived.Test.YtndlmgocldckfaaGreatG02
import Derived.BigQuiet
import Derived.Deep.QuietTactic
import Derived.Deep.RegionWith
namespace Go.Proofs.YtndlmgocldckfaaGreat
open Go.RowKit
set_option linter.unusedVariables false
set_option linter.unusedSimpArgs false
set_option maxRecDepth 100000
set_option maxHeartbeats 4000000
def aR(x:Ev):Ins:=⟨x.time,x.number,x.kind,x.entity⟩
def EvsIn(R:Nat→Prop)(w:World)(v:Value)(q:List Ev):Prop:=
 (v=.slice none 0 0∧q=[])∨∃ b off cap,v=.slice (some ⟨b,off,none⟩) q.length cap∧q.length≤cap∧cap≤9223372036854775807∧R b∧CodeAt w b off (q.map aR)
theorem EvsIn.mono{R R':Nat→Prop}{w:World}{v:Value}{q:List Ev}(h:EvsIn R w v q)(hR:∀ b,R b→R' b):EvsIn R' w v q:=by
 obtain h|⟨b,off,cap,rfl,hl,hm,hb,hc⟩:=h
 ·exact .inl h
 ·exact .inr ⟨b,off,cap,rfl,hl,hm,hR b hb,hc⟩
theorem EvsIn.only{R S:Nat→Prop}{w w':World}{v:Value}{q:List Ev}(h:EvsIn R w v q)(ho:Only S w w')(hR:∀ b,R b→¬S b):EvsIn R w' v q:=by
 obtain h|⟨b,off,cap,rfl,hl,hm,hb,hc⟩:=h
 ·exact .inl h
 ·exact .inr ⟨b,off,cap,rfl,hl,hm,hb,hc.only ho (hR b hb)⟩
theorem EvsIn.form{R:Nat→Prop}{w:World}{v:Value}{q:List Ev}(h:EvsIn R w v q):∃ sa sc,v=.slice sa q.length sc:=by
 obtain⟨rfl,rfl⟩|⟨b,off,cap,rfl,_⟩:=h
 ·exact⟨_,_,rfl⟩
 ·exact⟨_,_,rfl⟩
structure RefK(R:Nat→Prop)(w:World)(rb:Nat)(ents:Int)(ks:List (List Ins))(draws:List Int)(taken clock next:Int)(regs:List Int)(q:List Ev):Prop where
 body:∃ kv dv rv qv,w.cell? ⟨rb,0,none⟩=some (.int .i64 ents)∧w.cell? ⟨rb,1,none⟩=some kv∧w.cell? ⟨rb,2,none⟩=some dv∧w.cell? ⟨rb,3,none⟩=some (.int .i64 taken)∧w.cell? ⟨rb,4,none⟩=some (.int .i64 clock) ∧
  w.cell? ⟨rb,5,none⟩=some (.int .i64 next)∧w.cell? ⟨rb,6,none⟩=some rv∧w.cell? ⟨rb,7,none⟩=some qv∧KindsIn R w kv ks∧IntsIn R w dv draws∧IntsIn R w rv regs∧EvsIn R w qv q
 room:Room w rb 8
def jX(n:Int):Bool:=inB n 0 1000000000
def dN(l:List Int):Bool:=decide (l.length≤1000)&&l.all jX
theorem lA(ents:Int)(v dv:Value)(ks:List (List Ins))(w:World)(hv:KindsV w.heap.size w v ks)(p:Nat×Nat)(hk:bE ents ks=some p) :
  Calls Tryz.prog 27 #[.agg #[.int .i64 ents,v],dv] w
   fun e w'=>e=.returned (.tuple #[.pointer none,.int .i64 2])∧Below w.heap.size w w':=by
 have hV:bO ents ks=.tuple #[.int .i64 2,.int .i64 p.1,.int .i64 p.2]:=by simp[bO,hk]
 have HV:=aB hV;clear hV hk
 go_enter Tryz.func27,Tryz.ntmps27
 go_wp2_with fail
 refine(fO ents v ks _ ((hv.below ((Below.refl _ _).alloc (Nat.le_refl _) _)).mono (by simp))).mono ?_
 rintro e w1 ⟨rfl,hb1⟩;rw[HV.out]
 go_wp2
 go_ret2;exact⟨rfl,((Below.refl _ _).alloc (Nat.le_refl _) _).trans (hb1.mono (by simp))⟩
theorem yH{l:List Int}{k:Nat}(h:k<l.length)(ha:∀ x∈l.take k,jX x=true)(hx:jX l[k]=true):∀ x∈l.take (k+1),jX x=true:=by
 intro x hm;rw[List.take_succ_eq_append_getElem h]at hm;rcases List.mem_append.1 hm with h1|h1
 ·exact ha x h1
 ·simp at h1;subst h1;exact hx
theorem gC(n:Nat):List.replicate n (Value.int .i64 0)=ints (List.replicate n 0):=by simp[ints]
theorem yI(X:World)(lo rb:Nat)(T:TypeId)(ents:Int)(kv dv rv:Value)(ks:List (List Ins))(draws regs:List Int)(hrb:rb=X.heap.size)(hlo:lo≤X.heap.size)
  (hk:KindsIn (fun b=>lo≤b∧b<X.heap.size) X kv ks) (hd:IntsIn (fun b=>lo≤b∧b<X.heap.size) X dv draws) (hr:IntsIn (fun b=>lo≤b∧b<X.heap.size) X rv regs) :
  RefK (fun b=>lo≤b∧b<(X.alloc (.cells #[.int .i64 ents,kv,dv,.int .i64 0,.int .i64 0,.int .i64 1,rv,.slice none 0 0] T)).heap.size∧b≠rb) (X.alloc (.cells #[.int .i64 ents,kv,dv,.int .i64 0,.int .i64 0,.int .i64 1,rv,.slice none 0 0] T)) rb ents ks draws 0 0 1 regs []:=by
 subst hrb;have hb:=(Below.refl X.heap.size X).alloc (Nat.le_refl _) (.cells #[.int .i64 ents,kv,dv,.int .i64 0,.int .i64 0,.int .i64 1,rv,.slice none 0 0] T);have ho:=Only.new (S:=fun _=>False) hb;have hat:∀ i,(X.alloc (.cells #[.int .i64 ents,kv,dv,.int .i64 0,.int .i64 0,.int .i64 1,rv,.slice none 0 0] T)).cell? ⟨X.heap.size,i,none⟩=_:=fun i=>World.cell?_alloc_at _ _ _ _ rfl;have hR:∀ b,lo≤b∧b<X.heap.size→lo≤b∧b<(X.alloc (.cells #[.int .i64 ents,kv,dv,.int .i64 0,.int .i64 0,.int .i64 1,rv,.slice none 0 0] T)).heap.size∧b≠X.heap.size:=by intro b hb;simp;omega
 refine⟨⟨kv,dv,rv,.slice none 0 0,(hat 0).trans rfl,(hat 1).trans rfl,(hat 2).trans rfl,(hat 3).trans rfl,(hat 4).trans rfl,(hat 5).trans rfl,(hat 6).trans rfl,(hat 7).trans rfl,(hk.only ho (by simp)).mono hR,(hd.only ho (by simp)).mono hR,(hr.only ho (by simp)).mono hR,(.inl ⟨rfl,rfl⟩)⟩,?_⟩
 intro j hj;rw[hat,World.frozen?_alloc_at _ _ _ _ rfl];have:j=0∨j=1∨j=2∨j=3∨j=4∨j=5∨j=6∨j=7:=by omega
 rcases this with rfl|rfl|rfl|rfl|rfl|rfl|rfl|rfl<;>exact⟨rfl,rfl⟩
theorem vN{w wr w3:World}{ents:Int}{kv:Value}{dv:Value}{ks:List (List Ins)}{draws:List Int}(hbb:Below w.heap.size w wr)(hb3:Below wr.heap.size wr w3)
  (hK3:KindsIn (fun b=>wr.heap.size≤b∧b<w3.heap.size) w3 kv ks) (hd:IntsIn (fun b=>w.heap.size≤b∧b<wr.heap.size) wr dv draws) (m:Nat) (T:TypeId) (hm:m≤17592186044416) :
  Below w.heap.size w ((w3.alloc (.cells (madeCells #[.int .i64 0] m) 3)).alloc (.cells #[.int .i64 ents,kv,dv,.int .i64 0,.int .i64 0,.int .i64 1,.slice (some ⟨w3.heap.size,0,none⟩) m m,.slice none 0 0] T))∧w.heap.size≤w3.heap.size+1 ∧
  w3.heap.size+1<((w3.alloc (.cells (madeCells #[.int .i64 0] m) 3)).alloc (.cells #[.int .i64 ents,kv,dv,.int .i64 0,.int .i64 0,.int .i64 1,.slice (some ⟨w3.heap.size,0,none⟩) m m,.slice none 0 0] T)).heap.size ∧
  RefK (fun b=>w.heap.size≤b∧b<((w3.alloc (.cells (madeCells #[.int .i64 0] m) 3)).alloc (.cells #[.int .i64 ents,kv,dv,.int .i64 0,.int .i64 0,.int .i64 1,.slice (some ⟨w3.heap.size,0,none⟩) m m,.slice none 0 0] T)).heap.size∧b≠w3.heap.size+1)
   ((w3.alloc (.cells (madeCells #[.int .i64 0] m) 3)).alloc (.cells #[.int .i64 ents,kv,dv,.int .i64 0,.int .i64 0,.int .i64 1,.slice (some ⟨w3.heap.size,0,none⟩) m m,.slice none 0 0] T)) (w3.heap.size+1) ents ks draws 0 0 1 (List.replicate m 0) []:=by
 obtain⟨X,hX⟩:∃ X,X=w3.alloc (.cells (madeCells #[.int .i64 0] m) 3):=⟨_,rfl⟩;have hXs:X.heap.size=w3.heap.size+1:=by rw[hX];simp
 have hXb:Below w3.heap.size w3 X:=by rw[hX];exact(Below.refl _ _).alloc (Nat.le_refl _) _
 have hz1:=hbb.size;have hz3:=hb3.size;have hr:IntsIn (fun b=>w.heap.size≤b∧b<X.heap.size) X (.slice (some ⟨w3.heap.size,0,none⟩) m m) (List.replicate m 0):=by
  refine⟨by simpa using hm,.inr ⟨w3.heap.size,0,m,by simp,by omega,?_⟩⟩
  rw[hX,←gC];exact mA w3 _ m _
 rw[←hX];refine⟨hbb.trans ((hb3.mono (by omega)).trans ((hXb.mono (by omega)).trans ((Below.refl _ _).alloc (by omega) _))),by omega,by simp[hXs],?_⟩
 refine yI X w.heap.size _ T ents kv dv _ ks draws _ hXs.symm (by omega) ?_ ?_ hr
 ·exact(hK3.only (Only.new (S:=fun _=>False) hXb) (by simp)).mono (by intro b hb;omega)
 ·exact((hd.only (Only.new (S:=fun _=>False) hb3) (by simp)).only (Only.new (S:=fun _=>False) hXb) (by simp)).mono (by intro b hb;omega)
theorem vO{w wr w3:World}{ents:Int}{kv:Value}{dv:Value}{ks:List (List Ins)}{draws:List Int}{m:Nat}(hbb:Below w.heap.size w wr)(hb3:Below (wr.heap.size+1) (wr.alloc (.cells (madeCells #[.int .i64 0] m) 3)) w3)
  (hK3:KindsIn (fun b=>wr.heap.size+1≤b∧b<w3.heap.size) w3 kv ks) (hd:IntsIn (fun b=>w.heap.size≤b∧b<wr.heap.size) wr dv draws) (T:TypeId) (hm:m≤17592186044416) :
  Below w.heap.size w (w3.alloc (.cells #[.int .i64 ents,kv,dv,.int .i64 0,.int .i64 0,.int .i64 1,.slice (some ⟨wr.heap.size,0,none⟩) m m,.slice none 0 0] T))∧w.heap.size≤w3.heap.size ∧
  w3.heap.size<(w3.alloc (.cells #[.int .i64 ents,kv,dv,.int .i64 0,.int .i64 0,.int .i64 1,.slice (some ⟨wr.heap.size,0,none⟩) m m,.slice none 0 0] T)).heap.size ∧
  RefK (fun b=>w.heap.size≤b∧b<(w3.alloc (.cells #[.int .i64 ents,kv,dv,.int .i64 0,.int .i64 0,.int .i64 1,.slice (some ⟨wr.heap.size,0,none⟩) m m,.slice none 0 0] T)).heap.size∧b≠w3.heap.size)
   (w3.alloc (.cells #[.int .i64 ents,kv,dv,.int .i64 0,.int .i64 0,.int .i64 1,.slice (some ⟨wr.heap.size,0,none⟩) m m,.slice none 0 0] T)) w3.heap.size ents ks draws 0 0 1 (List.replicate m 0) []:=by
 have hz1:=hbb.size;have hz3:=hb3.size;rw[World.size_alloc]at hz3;have hb0:=(Below.refl wr.heap.size wr).alloc (Nat.le_refl _) (.cells (madeCells #[.int .i64 0] m) 3);have hr:IntsIn (fun b=>w.heap.size≤b∧b<w3.heap.size) w3 (.slice (some ⟨wr.heap.size,0,none⟩) m m) (List.replicate m 0):=by
  refine⟨by simpa using hm,.inr ⟨wr.heap.size,0,m,by simp,by omega,?_⟩⟩
  rw[←gC];exact(mA wr _ m _).below hb3 (by omega)
 refine⟨hbb.trans ((hb0.mono (by omega)).trans ((hb3.mono (by omega)).trans ((Below.refl _ _).alloc (by omega) _))),by omega,by simp,?_⟩
 refine yI w3 w.heap.size _ T ents kv dv _ ks draws _ rfl (by omega) ?_ ?_ hr
 ·exact hK3.mono (by intro b hb;omega)
 ·exact((hd.only (Only.new (S:=fun _=>False) hb0) (by simp)).only (Only.ofBelow (S:=fun k=>wr.heap.size+1≤k) hb3 (fun k h _=>h)) (by intro b hb;omega)).mono (by intro b hb;omega)
theorem mC{l:List Int}{k:Nat}(h:k<l.length):ints (l.take k)++[.int .i64 l[k]]=ints (l.take (k+1)):=by
 rw[List.take_succ_eq_append_getElem h,ints,ints,List.map_append];rfl
theorem aCi(ents:Int)(b off cap:Nat)(dv:Value)(ks:List (List Ins))(draws:List Int)(w:World)(hl:ks.length≤5864062014805)(hbw:b<w.heap.size)(hK:KindsAt w.heap.size w b off ks)(hd:IntsIn (·<w.heap.size) w dv draws)(hk:bE ents ks=none) :
  Calls Tryz.prog 27 #[.agg #[.int .i64 ents,.slice (some ⟨b,off,none⟩) ks.length cap],dv] w
   fun e w'=>(dN draws=false∧e=.returned (.tuple #[.pointer none,.int .i64 1])∧Below w.heap.size w w')∨(dN draws=true∧∃ rb,e=.returned (.tuple #[.pointer (some ⟨rb,0,none⟩),.int .i64 0])∧Below w.heap.size w w'∧w.heap.size≤rb∧rb<w'.heap.size ∧
    RefK (fun b=>w.heap.size≤b∧b<w'.heap.size∧b≠rb) w' rb ents ks draws 0 0 1 (List.replicate (ents*4).toNat 0) []):=by
 have hents:1≤ents∧ents≤8:=by
  unfold bE at hk
  split at hk
  ·simp at hk
  ·rename_i h;simp[inB]at h;omega
 obtain⟨he1,he2⟩:=hents;have HV:Hid (bO ents ks=.tuple #[.int .i64 0,.int .i64 0,.int .i64 0]):=by show _=_;simp[bO,hk]
 clear hk;have hmk:∀ W:World,(Instr.makeSlice 24 (.int .i64 (ents*4)) (.int .i64 (ents*4))).run Tryz.prog W=.ok (.slice (some ⟨W.heap.size,0,none⟩) (ents*4).toNat (ents*4).toNat) (W.alloc (.cells (madeCells #[.int .i64 0] (ents*4).toNat) 3)):=by
  intro W;obtain⟨i,hi,hz,hsz,hby⟩:=info_parts Tryz.info3;have:=run_make (P:=Tryz.prog) W 24 3 i (.int .i64 0) Tryz.underlying24 hi hz .i64 .i64 (ents*4) (ents*4) (by omega) (Int.le_refl _) (by rw[hby];omega) (by omega)
  rw[hsz]at this;simp only[Nat.mul_one]at this;exact this
 have hwrap:IntKind.i64.wrap (ents*4)=ents*4:=by rw[IntKind.wrap_i64];omega
 obtain⟨da,dc,rfl⟩:=hd.form
 go_enter Tryz.func27,Tryz.ntmps27
 go_wp2_with fail
 have hv:KindsV w.heap.size w (.slice (some ⟨b,off,none⟩) ks.length cap) ks:=⟨hl,.inr (.inl ⟨b,off,cap,rfl,hbw,hK⟩)⟩;refine(fO ents _ ks _ ((hv.below ((Below.refl _ _).alloc (Nat.le_refl _) _)).mono (by simp))).mono ?_
 rintro e w1 ⟨rfl,hb1⟩;rw[HV.out];have hb2:Below w.heap.size w w1:=((Below.refl _ _).alloc (Nat.le_refl _) _).trans (hb1.mono (by simp))
 have hm0:w1.cell? ⟨w.heap.size,0,none⟩=some (.int .i64 ents):=aA hb1 (by simp[go_sem]) (by simp)
 have hm1:w1.cell? ⟨w.heap.size,1,none⟩=some (.slice (some ⟨b,off,none⟩) ks.length cap):=aA hb1 (by simp[go_sem]) (by simp)
 have hz1:w.heap.size<w1.heap.size:=by have:=hb1.size;simp at this;omega
 clear hb1
 by_cases hlong:draws.length≤1000
 ·have h1000:decide (1000<(draws.length:Int))=false:=by simp;omega
  have HD:Hid (dN draws=draws.all jX):=by show _=_;simp[dN,hlong]
  go_wp2
  go_loopw [9,10,11] (fun lv i _ wr=>∃ (k:Nat) (oa:Option Addr) (oc:Nat),k≤draws.length∧i=.int .i64 k∧lv=.slice oa k oc∧Below w1.heap.size w1 wr∧Hid (wr.ownsRow w1.heap.size 3 1 (.slice oa k oc) k (ints (draws.take k)))∧Hid (∀ x∈draws.take k,jX x=true)) (fun _ i _ _=>draws.length-(intOf i).toNat)
  case atStart=>exact⟨0,none,0,by omega,rfl,rfl,Below.refl _ _,World.ownsRow_nil _ _ _ _,by intro x hx;simp at hx⟩
  case round=>
   obtain⟨k,oa,oc,hkl,rfl,rfl,hbel,hown,hall⟩:=hrel
   by_cases hlt:k<draws.length
   ·obtain⟨_,⟨_,h0⟩|⟨db,doff,dcap,hde,hdb,hdr⟩⟩:=hd
    ·rw[h0]at hlt;simp at hlt
    ·simp only[Value.slice.injEq]at hde;obtain⟨rfl,-,rfl⟩:=hde;have hx:wr.cell? ⟨db,doff+k,none⟩=some (.int .i64 draws[k]):=aA hbel (aA hb2 (hdr k _ (by simp[ints,hlt])) hdb) (by omega)
     rcases hm:jX draws[k]with _|_
     ·have hm':inB draws[k] 0 1000000000=false:=hm;have HN:Hid (dN draws=false):=by
       show _=_;rw[HD.out];simp only[List.all_eq_false];exact⟨draws[k],by simp,by simp[hm]⟩
      clear hm
      go_wp2_with (go_at_call 57;refine(dF _ _ _ _).mono ?_;rintro e w' ⟨rfl,rfl⟩)
      go_ret2;exact .inl ⟨HN.out,rfl,hb2.trans (hbel.mono (by omega))⟩
     ·have hm':inB draws[k] 0 1000000000=true:=hm;have Hm:=aB hm;clear hm
      go_wp2_with (first|(go_at_call 57;refine(dF _ _ _ _).mono ?_;rintro e w' ⟨rfl,rfl⟩)|(at_builtin;refine aD rfl (.tmp 37) (.tmp 42) 24 rfl w1.heap.size 3 (.int .i64 0) 1 8 Tryz.underlying24 Tryz.info3 rfl (by omega) _ k (ints (draws.take k)) rfl (hown.out.alloc _) _ 1 [.int .i64 draws[k]] rfl (.inr (.inl ⟨_,0,_,rfl,?_⟩)) rfl (by simp[Value.oneCell']) (by omega) (by omega) (by have:=hbel.size;simp;omega) ?_))
      ·intro j u hu;have:j=0:=by have:=(List.getElem?_eq_some_iff.1 hu).1;simp at this;omega
       subst this;simp at hu;subst hu;simp[go_sem]
      intro v2 w2 hown2 hgr2 hwh2;obtain⟨sa2,sc2,rfl⟩:=bF hown2.out;have hb3:Below w1.heap.size w1 w2:=(hbel.alloc hbel.size _).grown hgr2.out (by have:=hbel.size;simp;omega) (fun b hb=>(hown.out.lt b hb).1)
      have hints:ints (draws.take k)++[.int .i64 draws[k]]=ints (draws.take (k+1)):=mC hlt;rw[hints]at hown2;clear hints
      go_wp2
      go_roundw
      case rel=>exact⟨k+1,sa2,sc2,by omega,by go_num,rfl,hb3,hown2,yH hlt hall.out Hm.out⟩
      case measure=>simp[intOf];omega
   ·have hk':k=draws.length:=by omega
    subst hk';rw[List.take_length]at hown hall;have HT:Hid (dN draws=true):=by show _=_;rw[HD.out];simpa using hall.out
    have hdr:=oT hown.out hd.1;have Hdr:=aB hdr;have gm0:=aA hbel hm0 hz1;have gm1:=aA hbel hm1 hz1;have hbb:=hb2.trans (hbel.mono (by omega))
    have hzr:w.heap.size<wr.heap.size:=by have:=hbel.size;omega
    have HK:Hid (∀ W,Below wr.heap.size wr W→KindsAt W.heap.size W b off ks):=by
     intro W hW;have:=hW.size;exact(hK.below (hbb.trans (hW.mono (by omega))) hbw (Nat.le_refl _)).mono (by omega)
    clear hm0 hm1 hdr hall
    go_wp2
    go_region_with (go_at_call 63;refine(kQ ents b off cap ks _ hl (by simp;omega) (HK.out _ (by first|exact(Below.refl _ _).drew|exact((Below.refl _ _).alloc (Nat.le_refl _) _).drew|exact((Below.refl _ _).drew).alloc (Nat.le_refl _) _))).mono ?_;rintro e w3 ⟨sa,sc,rfl,hb3,hK3⟩;have q0:w3.cell? ⟨w.heap.size,0,none⟩=some (.int .i64 ents):=aA hb3 (by first|exact gm0|exact aA ((Below.refl _ _).alloc (Nat.le_refl _) _) gm0 hzr) (by simp;omega);have q1:w3.cell? ⟨w.heap.size,1,none⟩=some (.slice (some ⟨b,off,none⟩) ks.length cap):=aA hb3 (by first|exact gm1|exact aA ((Below.refl _ _).alloc (Nat.le_refl _) _) gm1 hzr) (by simp;omega))
    all_goals
     go_wp2
     go_ret2
     first
      | (have hb3':Below wr.heap.size wr w3:=(Below.refl _ _).drew.trans hb3
         exact .inr ⟨HT.out,w3.heap.size+1,by simp[Act.put],vN hbb hb3' hK3 (Hdr.out.mono (by intro b hb;omega)) _ _ (by omega)⟩)
      | (have hb3':Below (wr.heap.size+1) (wr.alloc (.cells (madeCells #[.int .i64 0] (ents*4).toNat) 3)) w3:=(Below.refl _ _).drew.trans (by simpa using hb3)
         exact .inr ⟨HT.out,w3.heap.size,by simp[Act.put],vO hbb hb3' (by simpa using hK3) (Hdr.out.mono (by intro b hb;omega)) _ (by omega)⟩)
 ·have h1000:decide (1000<(draws.length:Int))=true:=by simp;omega
  have HD:Hid (dN draws=false):=by show _=_;simp[dN,hlong]
  go_wp2
  go_ret2;exact .inl ⟨HD.out,rfl,hb2⟩
theorem aE3{R:Nat→Prop}(rb:Nat)(ents:Int)(ks:List (List Ins))(draws:List Int)(taken clock next:Int)(regs:List Int)(q:List Ev)(w:World)(h:RefK R w rb ents ks draws taken clock next regs q)(ht:0≤taken)(ht':taken≤1000) :
  Calls Tryz.prog 49 #[.pointer (some ⟨rb,0,none⟩)] w fun e w'=>e=.returned (.tuple #[.int .i64 clock,.int .i64 q.length,.int .i64 (draws.length-taken)])∧Below w.heap.size w w':=by
 obtain⟨⟨kv,dv,rv,qv,h0,h1,h2,h3,h4,h5,h6,h7,hk,hd,hr,hq⟩,hroom⟩:=h;obtain⟨da,dc,rfl⟩:=hd.form;obtain⟨qa,qc,rfl⟩:=hq.form;have hdl:=hd.1;clear h0 h1 h5 h6 hk hd hr hq hroom;have hw:IntKind.i64.wrap ((draws.length:Int)-taken)=(draws.length:Int)-taken:=by rw[IntKind.wrap_i64];omega
 go_enter Tryz.func49,Tryz.ntmps49
 go_wp2
 go_quiet (fail)
 go_wp2
 go_ret3
 exact⟨by simp[hw],below_drewN (Below.refl _ _) nq⟩
theorem sU{R:Nat→Prop}(rb:Nat)(ents:Int)(ks:List (List Ins))(draws:List Int)(taken clock next:Int)(regs:List Int)(q:List Ev)(w:World)(h:RefK R w rb ents ks draws taken clock next regs q) :
  Calls Tryz.prog 87 #[.pointer (some ⟨rb,0,none⟩)] w fun e w'=>e=.returned (.bool (decide (q.length<16)&&decide (next<1000000000)))∧w'=w:=by
 obtain⟨⟨kv,dv,rv,qv,h0,h1,h2,h3,h4,h5,h6,h7,hk,hd,hr,hq⟩,hroom⟩:=h;obtain⟨qa,qc,rfl⟩:=hq.form;clear h0 h1 h2 h3 h4 h6 hk hd hr hroom
 by_cases h16:q.length<16
 ·have hd:decide ((q.length:Int)<16)=true:=by simp;omega
  go_enter Tryz.func87,Tryz.ntmps87
  go_wp2
  go_ret;exact⟨by simp[h16],rfl⟩
 ·have hd:decide ((q.length:Int)<16)=false:=by simp;omega
  go_enter Tryz.func87,Tryz.ntmps87
  go_wp2
  go_ret;exact⟨by simp[h16],rfl⟩
theorem aE4{R:Nat→Prop}(rb:Nat)(ents:Int)(ks:List (List Ins))(draws:List Int)(taken clock next:Int)(regs:List Int)(q:List Ev)(ent r:Int)(w:World)(h:RefK R w rb ents ks draws taken clock next regs q)(he:1≤ents)(he':ents≤8)(hrl:(regs.length:Int)=ents*4) :
  Calls Tryz.prog 51 #[.pointer (some ⟨rb,0,none⟩),.int .i64 ent,.int .i64 r] w fun e w'=>w'=w ∧
   (((inB ent 0 (ents-1)&&inB r 0 3)=false∧e=.returned (.tuple #[.int .i64 0,.int .i64 1]))∨((inB ent 0 (ents-1)&&inB r 0 3)=true∧∃ x,regs[(ent*4+r).toNat]?=some x∧e=.returned (.tuple #[.int .i64 x,.int .i64 0]))):=by
 obtain⟨⟨kv,dv,rv,qv,h0,h1,h2,h3,h4,h5,h6,h7,hk,hd,hr,hq⟩,hroom⟩:=h;clear h1 h2 h3 h4 h5 h7 hk hd hq hroom;rcases h1':inB ent 0 (ents-1)with _|_
 ·go_enter Tryz.func51,Tryz.ntmps51
  go_wp2_with (first|(go_at_call 57;refine(dF _ _ _ _).mono ?_;rintro e w1 ⟨rfl,rfl⟩;rw[h1'])|(go_at_call 95;refine(eX _ _).mono ?_;rintro e w1 ⟨rfl,rfl⟩))
  go_ret2;exact⟨rfl,.inl ⟨rfl,by simp⟩⟩
 ·rcases h2':inB r 0 3 with _|_
  ·go_enter Tryz.func51,Tryz.ntmps51
   go_wp2_with (first|(go_at_call 57;refine(dF _ _ _ _).mono ?_;rintro e w1 ⟨rfl,rfl⟩;rw[h1'])|(go_at_call 95;refine(eX _ _).mono ?_;rintro e w1 ⟨rfl,rfl⟩;rw[h2']))
   go_ret2;exact⟨rfl,.inl ⟨rfl,by simp⟩⟩
  ·have b1:0≤ent∧ent≤ents-1:=by simpa [inB]using h1'
   have b2:0≤r∧r≤3:=by simpa [inB]using h2'
   obtain⟨b11,b12⟩:=b1;obtain⟨b21,b22⟩:=b2;obtain⟨en,rfl⟩:=Int.eq_ofNat_of_zero_le b11;obtain⟨rn,rfl⟩:=Int.eq_ofNat_of_zero_le b21;have hlt:en*4+rn<regs.length:=by omega
   obtain⟨_,⟨_,h0'⟩|⟨b,off,cap,rfl,hb,hrow⟩⟩:=hr
   ·rw[h0']at hlt;simp at hlt
   ·have hcell:=hrow (en*4+rn) (.int .i64 regs[en*4+rn]) (by simp[ints,hlt])
    have HX:Hid (regs[((en:Int)*4+rn).toNat]?=some regs[en*4+rn]):=by
     show _=_;rw[show((en:Int)*4+rn).toNat=en*4+rn by omega];simp[hlt]
    generalize regs[en*4+rn]=x at hcell HX
    go_enter Tryz.func51,Tryz.ntmps51
    go_wp2_with (first|(go_at_call 57;refine(dF _ _ _ _).mono ?_;rintro e w1 ⟨rfl,rfl⟩;rw[h1'])|(go_at_call 95;refine(eX _ _).mono ?_;rintro e w1 ⟨rfl,rfl⟩;rw[h2']))
    go_ret2;exact⟨rfl,.inr ⟨rfl,x,HX.out,by simp⟩⟩
theorem Tryz.info129:(Tryz.prog.info? 143).map (fun i=>(i.zero,i.size,i.bytes))=some (some (.agg #[.int .i64 0,.int .i64 0,.int .i64 0,.int .i64 0]),4,32):=by kernel_rfl
theorem aCk(a b:Ev)(w:World) :
  Calls Tryz.prog 115 #[.agg #[.int .i64 a.time,.int .i64 a.number,.int .i64 a.kind,.int .i64 a.entity],.agg #[.int .i64 b.time,.int .i64 b.number,.int .i64 b.kind,.int .i64 b.entity]] w
   fun e w'=>e=.returned (.bool (cM a b))∧Below w.heap.size w w':=by
 by_cases h1:a.time<b.time
 ·have h1':decide (a.time<b.time)=true:=by simpa using h1
  go_enter Tryz.func115,Tryz.ntmps115
  go_wp2
  go_ret;exact⟨by simp[cM,h1],((Below.refl _ _).alloc (Nat.le_refl _) _).alloc (by simp) _⟩
 ·have h1':decide (a.time<b.time)=false:=by simpa using h1
  by_cases h2:a.time=b.time
  ·have h2':(a.time==b.time)=true:=by simpa using h2
   have H2:=aB h2;clear h2 h1
   go_enter Tryz.func115,Tryz.ntmps115
   go_wp2
   go_ret;exact⟨by simp[cM,H2.out],((Below.refl _ _).alloc (Nat.le_refl _) _).alloc (by simp) _⟩
  ·have h2':(a.time==b.time)=false:=by simpa using h2
   go_enter Tryz.func115,Tryz.ntmps115
   go_wp2
   go_ret;exact⟨by simp[cM,h1,h2],((Below.refl _ _).alloc (Nat.le_refl _) _).alloc (by simp) _⟩
theorem CodeAt.take{w:World}{b off:Nat}{l:List Ins}(h:CodeAt w b off l)(k:Nat):CodeAt w b off (l.take k):=by
 intro i x hx;rw[List.getElem?_take]at hx
 split at hx
 ·exact h i x hx
 ·simp at hx
theorem CodeAt.drop{w:World}{b off:Nat}{l:List Ins}(h:CodeAt w b off l)(k:Nat):CodeAt w b (off+k*4) (l.drop k):=by
 intro i x hx;rw[List.getElem?_drop]at hx;obtain⟨h0,h1,h2,h3⟩:=h (k+i) x hx;refine⟨?_,?_,?_,?_⟩
 ·rw[←h0];congr 2;omega
 ·rw[←h1];congr 2;omega
 ·rw[←h2];congr 2;omega
 ·rw[←h3];congr 2;omega
def mE(w w':World)(rb:Nat)(next:Int)(q:List Ev):Prop:=
 (∀ i v,i≠5→i≠7→w.cell? ⟨rb,i,none⟩=some v→w'.cell? ⟨rb,i,none⟩=some v)∧w'.cell? ⟨rb,5,none⟩=some (.int .i64 (next+1))∧(∃ qv,w'.cell? ⟨rb,7,none⟩=some qv∧EvsIn (fun b=>w.heap.size≤b∧b<w'.heap.size) w' qv q)∧Room w' rb 8
theorem mS{R:Nat→Prop}{rb:Nat}{ents:Int}{ks:List (List Ins)}{draws:List Int}{taken clock next:Int}{regs:List Int}{q:List Ev}{time kind ent:Int}{w w3 w6:World}{e:Ev}{k:Nat}{sa3:Option Addr}{sc3 n:Nat}
  (hP:RefK R w rb ents ks draws taken clock next regs q) (hbk:rb<w.heap.size) (hR:∀ b,R b→b<w.heap.size∧b≠rb) (hb:Below w.heap.size w w6) (he:e=⟨time,next,kind,ent⟩) (hp:jY e q=k) (hkl:k≤q.length) (hn:n=q.length+1)
  (hown:w6.ownsRow w3.heap.size 143 4 (.slice sa3 n sc3) n (aO ((q.map aR).take k++[Ins.mk time next kind ent])++aO ((q.map aR).drop k))) (hz3:w.heap.size<w3.heap.size) (hz6:w3.heap.size≤w6.heap.size) :
  Ending.returned (.int .i64 next)=Ending.returned (.int .i64 next)∧Only (·=rb) w ((w6.setCell ⟨rb,7,none⟩ (.slice sa3 n sc3)).setCell ⟨rb,5,none⟩ (.int .i64 (next+1))) ∧
   RefK (fun b=>R b∨(w.heap.size≤b∧b<((w6.setCell ⟨rb,7,none⟩ (.slice sa3 n sc3)).setCell ⟨rb,5,none⟩ (.int .i64 (next+1))).heap.size)) ((w6.setCell ⟨rb,7,none⟩ (.slice sa3 n sc3)).setCell ⟨rb,5,none⟩ (.int .i64 (next+1))) rb ents ks draws taken clock (next+1) regs (dR ⟨time,next,kind,ent⟩ q)∧mE w ((w6.setCell ⟨rb,7,none⟩ (.slice sa3 n sc3)).setCell ⟨rb,5,none⟩ (.int .i64 (next+1))) rb next (dR ⟨time,next,kind,ent⟩ q):=by
 obtain⟨W,hW⟩:∃ W,W=(w6.setCell ⟨rb,7,none⟩ (.slice sa3 n sc3)).setCell ⟨rb,5,none⟩ (.int .i64 (next+1)):=⟨_,rfl⟩
 have ho:Only (·=rb) w6 W:=by rw[hW];exact Only.setCell (S:=(·=rb)) (Only.setCell (S:=(·=rb)) (Only.refl _ _) rfl _) rfl _
 have how:Only (·=rb) w W:=(Only.new hb).trans ho
 have hsz:W.heap.size=w6.heap.size:=by rw[hW];simp[World.setCell]
 have hRo:∀ b,R b→¬b=rb:=fun b hb=>(hR b hb).2;have hrm:Room W rb 8:=by rw[hW];obtain⟨_,hroom⟩:=hP;exact((hroom.below hb hbk).setCell _ _).setCell _ _
 obtain⟨⟨kv,dv,rv,qv,h0,h1,h2,h3,h4,h5,h6,h7,hk,hd,hr,hq⟩,hroom⟩:=hP;have keep:∀ i,i≠5→i≠7→∀ v,w.cell? ⟨rb,i,none⟩=some v→W.cell? ⟨rb,i,none⟩=some v:=by
  intro i h5 h7 v hv;rw[hW,World.cell?_setCell_other _ _ _ _ (by simp;try omega),World.cell?_setCell_other _ _ _ _ (by simp;try omega)]
  exact aA hb hv hbk
 have hz:=hb.size;have c5:W.cell? ⟨rb,5,none⟩=some (.int .i64 (next+1)):=by
  rw[hW];exact World.cell?_setCell_same' _ _ _ (((hroom.below hb hbk).setCell _ _) 5 (by omega)).1
 have c7:W.cell? ⟨rb,7,none⟩=some (.slice sa3 n sc3):=by
  rw[hW,World.cell?_setCell_other _ _ _ _ (by simp)]
  exact World.cell?_setCell_same' _ _ _ ((hroom.below hb hbk) 7 (by omega)).1
 have hins:aO ((q.map aR).take k++[Ins.mk time next kind ent])++aO ((q.map aR).drop k)=aO ((dR ⟨time,next,kind,ent⟩ q).map aR):=by
  rw[dR,←he,hp,he];simp[aO,aR,List.map_take,List.map_drop]
 rw[hins]at hown;have hil:(dR ⟨time,next,kind,ent⟩ q).length=n:=by rw[cX,hn]
 rw[←hW];have hev:EvsIn (fun b=>w.heap.size≤b∧b<W.heap.size) W (.slice sa3 n sc3) (dR ⟨time,next,kind,ent⟩ q):=by
  obtain⟨hx,⟨hn0,hn1⟩|⟨g,cap,cur,hg,hbg,hgc,hle,hmx,rest⟩⟩:=id hown
  ·omega
  ·rcases bK hown with⟨_,h0',_⟩|⟨g',cap',hg',hb',hlt',hrow'⟩
   ·omega
   ·rw[hg]at hg';simp only[Value.slice.injEq,Option.some.injEq,Addr.mk.injEq,and_true,true_and]at hg';obtain⟨rfl,rfl⟩:=hg';refine .inr ⟨g,0,cap,by rw[hil];exact hg,by rw[hil];exact hle,by simpa [maxLen]using hmx,⟨by omega,by omega⟩,?_⟩
    exact(hrow'.only ho (by omega)).code
 refine⟨rfl,how,⟨⟨kv,dv,rv,.slice sa3 n sc3,keep 0 (by omega) (by omega) _ h0,keep 1 (by omega) (by omega) _ h1,keep 2 (by omega) (by omega) _ h2,keep 3 (by omega) (by omega) _ h3,keep 4 (by omega) (by omega) _ h4,c5,keep 6 (by omega) (by omega) _ h6,c7,
  (hk.only how hRo).mono (fun b h=>.inl h),(hd.only how hRo).mono (fun b h=>.inl h),(hr.only how hRo).mono (fun b h=>.inl h),hev.mono (fun b h=>.inr h)⟩,hrm⟩,⟨fun i v h5 h7=>keep i h5 h7 v,c5,⟨_,c7,hev⟩,hrm⟩⟩
theorem aCl{R:Nat→Prop}(rb:Nat)(ents:Int)(ks:List (List Ins))(draws:List Int)(taken clock next:Int)(regs:List Int)(time kind ent:Int)(w:World)(h:RefK R w rb ents ks draws taken clock next regs [])
  (hR:∀ b,R b→b<w.heap.size∧b≠rb) (hv7:w.cell? ⟨rb,7,none⟩=some (.slice none 0 0)) (hn0:0≤next) (hn1:next<1000000000) :
  Calls Tryz.prog 88 #[.pointer (some ⟨rb,0,none⟩),.int .i64 time,.int .i64 kind,.int .i64 ent] w fun e w'=>e=.returned (.int .i64 next)∧Only (·=rb) w w' ∧
   RefK (fun b=>R b∨(w.heap.size≤b∧b<w'.heap.size)) w' rb ents ks draws taken clock (next+1) regs (dR ⟨time,next,kind,ent⟩ [])∧mE w w' rb next (dR ⟨time,next,kind,ent⟩ []):=by
 have hP:=aB h;obtain⟨⟨kv,dv,rv,qv,h0,h1,h2,h3,h4,h5,h6,h7,hk,hd,hr,hq⟩,hroom⟩:=h;have hqv:qv=.slice none 0 0:=by rw[h7]at hv7;exact Option.some.inj hv7
 subst hqv;have hq16:([]:List Ev).length<16:=by decide
 have hbk:=aC h0;have Hk:=aB hk;have Hd:=aB hd;have Hr:=aB hr;clear h0 h1 h2 h3 h4 h6 hk hd hr hq;obtain⟨e,he⟩:∃ e:Ev,e=⟨time,next,kind,ent⟩:=⟨_,rfl⟩
 have HE:=aB he;clear he
 go_enter Tryz.func88,Tryz.ntmps88
 go_wp2
 go_loopw [10] (fun i wr=>i=.int .i64 0∧Below (w.heap.size+1) (w.alloc (.cells #[.int .i64 time,.int .i64 next,.int .i64 kind,.int .i64 ent] 143)) wr) (fun _ _=>0)
 case atStart=>exact⟨rfl,Below.refl _ _⟩
 case round=>
  obtain⟨rfl,hbel⟩:=hrel;have hzr:=hbel.size;rw[World.size_alloc]at hzr;have hb0:=(Below.refl w.heap.size w).alloc (Nat.le_refl _) (.cells #[.int .i64 time,.int .i64 next,.int .i64 kind,.int .i64 ent] 143)
  have hbw:Below w.heap.size w wr:=hb0.trans (hbel.mono (by omega))
  have g7:=aA hbw h7 hbk;have e0:wr.cell? ⟨w.heap.size,0,none⟩=some (.int .i64 time):=aA hbel (by simp[go_sem]) (by omega)
  have e1:wr.cell? ⟨w.heap.size,1,none⟩=some (.int .i64 next):=aA hbel (by simp[go_sem]) (by omega)
  have e2:wr.cell? ⟨w.heap.size,2,none⟩=some (.int .i64 kind):=aA hbel (by simp[go_sem]) (by omega)
  have e3:wr.cell? ⟨w.heap.size,3,none⟩=some (.int .i64 ent):=aA hbel (by simp[go_sem]) (by omega)
  have e5:=aA hbw h5 hbk
  go_wp2
  go_quiet (fail)
  have hb4:Below wr.heap.size wr (wr.drewN nq):=below_drewN (Below.refl _ _) nq;generalize wr.drewN nq=w3 at hb4 ⊢;have hb5:Below w.heap.size w w3:=hbw.trans (hb4.mono (by omega))
  have hz3:w.heap.size<w3.heap.size:=by have:=hb4.size;omega
  have f7:=aA hb5 h7 hbk;have f5:=aA hb5 h5 hbk;have f0:=aA hb4 e0 (by omega)
  have f1:=aA hb4 e1 (by omega)
  have f2:=aA hb4 e2 (by omega)
  have f3:=aA hb4 e3 (by omega)
  clear e0 e1 e2 e3 e5 g7 h5 h7
  go_wp2_with (at_builtin;refine aD rfl (.tmp 40) (.tmp 46) 115 rfl w3.heap.size 143 (.agg #[.int .i64 0,.int .i64 0,.int .i64 0,.int .i64 0]) 4 32 Tryz.underlying115 Tryz.info129 rfl (by omega) _ 0 [] rfl (World.ownsRow_nil _ _ _ _) _ 0 [] rfl ?_ rfl (by simp) (by omega) (by omega) (Nat.le_refl _) ?_)
  ·exact .inl ⟨rfl,rfl,rfl⟩
  intro v1 w4 hown1 hgr1 hwh1;obtain⟨sa1,sc1,rfl⟩:=bF hown1.out;have hb6:Below w3.heap.size w3 w4:=(Below.refl _ _).grown hgr1.out (Nat.le_refl _) (by intro k hk;simp[Value.ownBlock]at hk)
  have hz4:=hb6.size;have f7:=aA hb6 f7 (by omega)
  have f5:=aA hb6 f5 (by omega)
  have f0:=aA hb6 f0 (by omega)
  have f1:=aA hb6 f1 (by omega)
  have f2:=aA hb6 f2 (by omega)
  have f3:=aA hb6 f3 (by omega)
  try simp only[Nat.zero_add,List.nil_append]at hown1
  go_wp2_with (at_builtin;refine aD rfl (.tmp 48) (.tmp 50) 115 rfl w3.heap.size 143 (.agg #[.int .i64 0,.int .i64 0,.int .i64 0,.int .i64 0]) 4 32 Tryz.underlying115 Tryz.info129 rfl (by omega) _ 0 [] rfl (hown1.out.alloc _) _ 1 (aO [Ins.mk time next kind ent]) rfl (.inr (.inl ⟨w4.heap.size,0,_,rfl,?_⟩)) rfl (dH _) (by omega) (by omega) (by simp;omega) ?_)
  ·intro j u hu;have hj:j<4:=by have:=(List.getElem?_eq_some_iff.1 hu).1;simpa [aO,cP]using this
   have:j=0∨j=1∨j=2∨j=3:=by omega
   rcases this with rfl|rfl|rfl|rfl<;>simp[aO,cP]at hu<;>subst hu<;>simp[go_sem]
  intro v2 w5 hown2 hgr2 hwh2;obtain⟨sa2,sc2,rfl⟩:=bF hown2.out;have hb7:Below w3.heap.size w4 w5:=((Below.refl _ _).alloc (by omega) _).grown hgr2.out (by simp;omega) (fun b hb=>(hown1.out.lt b hb).1)
  have hz5:=hb7.size;have f7:=aA hb7 f7 (by omega)
  have f5:=aA hb7 f5 (by omega)
  have f1:=aA hb7 f1 (by omega)
  have hb37:Below w3.heap.size w3 w5:=hb6.trans hb7;have z7:w5.frozen? ⟨rb,7,none⟩=false:=((hroom.below (hb5.trans (hb37.mono (by omega))) hbk) 7 (by omega)).2
  have z5:w5.frozen? ⟨rb,5,none⟩=false:=((hroom.below (hb5.trans (hb37.mono (by omega))) hbk) 5 (by omega)).2
  clear f0 f2 f3
  try simp only[Nat.zero_add,List.nil_append]at hown2
  go_wp2_with (at_builtin;refine aD rfl (.tmp 53) (.tmp 59) 115 rfl w3.heap.size 143 (.agg #[.int .i64 0,.int .i64 0,.int .i64 0,.int .i64 0]) 4 32 Tryz.underlying115 Tryz.info129 rfl (by omega) _ 1 (aO [Ins.mk time next kind ent]) rfl hown2.out _ 0 [] rfl ?_ rfl (by simp) (by omega) (by omega) (by omega) ?_)
  ·exact .inl ⟨rfl,rfl,rfl⟩
  intro v3 w6 hown3 hgr3 hwh3;obtain⟨sa3,sc3,rfl⟩:=bF hown3.out;have hb8:Below w3.heap.size w5 w6:=(Below.refl _ _).grown hgr3.out (by omega) (fun b hb=>(hown2.out.lt b hb).1)
  have hz6:=hb8.size;have f7:=aA hb8 f7 (by omega)
  have f5:=aA hb8 f5 (by omega)
  have f1:=aA hb8 f1 (by omega)
  have z7:w6.frozen? ⟨rb,7,none⟩=false:=(hb8.frozen (p:=⟨rb,7,none⟩) (by show rb<_;omega)).trans z7
  have z5:w6.frozen? ⟨rb,5,none⟩=false:=(hb8.frozen (p:=⟨rb,5,none⟩) (by show rb<_;omega)).trans z5
  have hrb:rb≠w.heap.size:=by omega
  go_wp2
  go_ret;exact mS hP.out hbk hR (hb5.trans ((hb37.trans hb8).mono (by omega))) HE.out (k:=0) rfl (Nat.le_refl _) rfl (by simpa [aO]using hown3.out) (by omega) (by omega)
end Go.Proofs.YtndlmgocldckfaaGreat
