import Derived.Test.YtndlmgocldckfaaGreatG27
import Derived.Test.YtndlmgocldckfaaGreatG26
import Derived.Test.YtndlmgocldckfaaGreatG06
import Derived.Deep.LoopGhost
import Derived.Test.YtndlmgocldckfaaGreatG14
import Derived.BigQuiet
import Derived.Test.YtndlmgocldckfaaGreatG11
import Derived.Test.YtndlmgocldckfaaGreatG12
namespace Go.Proofs.YtndlmgocldckfaaGreat
open Go.RowKit
set_option linter.unusedVariables false
set_option linter.unusedSimpArgs false
set_option maxRecDepth 100000
set_option maxHeartbeats 4000000
theorem tQ(a b:List Int):aH a++aH b=aH (a++b):=by
 refine ByteArray.ext ?_;simp[aH,ByteArray.data_append]
theorem bV(l:List Int):(aH l).size=l.length:=by simp[aH,ByteArray.size]
theorem zL(x:Int)(w:World)(hx:0≤x∧x<256):(convert 56 9 (.slice (some ⟨w.heap.size,0,none⟩) 1 1)).run Tryz.prog (w.alloc (.cells #[.int .u8 x] 5))=.ok (.string (aH [x])) (w.alloc (.cells #[.int .u8 x] 5)):=
 iS (l:=[x]) (cap:=1) (bD w _ [.int .u8 x]) (by simpa using hx)
theorem aD9(a b c d:Int)(w:World)(h:∀ x∈[a,b,c,d],0≤x∧x<256):(convert 56 9 (.slice (some ⟨w.heap.size,0,none⟩) 4 4)).run Tryz.prog (w.alloc (.cells #[.int .u8 a,.int .u8 b,.int .u8 c,.int .u8 d] 5))=.ok (.string (aH [a,b,c,d])) (w.alloc (.cells #[.int .u8 a,.int .u8 b,.int .u8 c,.int .u8 d] 5)):=
 iS (l:=[a,b,c,d]) (cap:=4) (bD w _ [.int .u8 a,.int .u8 b,.int .u8 c,.int .u8 d]) h
theorem dY(n:Int)(w:World)(hn:0≤n∧n≤9223372036854775807) :
  Calls Tryz.prog 78 #[.int .i64 n] w fun e w'=>e=.returned (.string (aH (aJ n)))∧Below w.heap.size w w':=by
 go_enter Tryz.func78,Tryz.ntmps78
 go_wp2
 go_loopg [0,3] 11 (fun g s0 s3 wr=>∃ (k:Nat) (m:Int) (acc:List Int),s0=.int .i64 m∧s3=.string (aH acc)∧k+2≤g∧0≤m∧m≤9223372036854775807∧acc.length+k≤9∧Hid (m<128 ^ (k+1)∧acc++eK k m=aJ n∧Below w.heap.size w wr))
 case atStart=>exact⟨9,n,[],rfl,rfl,by omega,by omega,by omega,by simp,by have:=hn.2;omega,rfl,Below.refl _ _⟩
 case round=>
  obtain⟨k,m,acc,rfl,rfl,hg,hm0,hm1,hal,hI⟩:=hrel;have z1:(aH acc).size≤9:=by rw[bV];omega
  by_cases hlt:128≤m
  ·have d1:decide (128≤m)=true:=by simpa using hlt
   have e1:Int.tmod m 128=m % 128:=Int.tmod_eq_emod_of_nonneg hm0;have e2:Int.tdiv m 128=m / 128:=Int.tdiv_eq_ediv_of_nonneg hm0;have b1:IntKind.i64.wrap (m % 128+128)=m % 128+128:=by rw[IntKind.wrap_i64];omega
   have b2:IntKind.u8.wrap (m % 128+128)=m % 128+128:=mP _ (by omega) (by omega)
   have hcv:=zL (m % 128+128) wr (by omega)
   have z2:(aH [m % 128+128]).size≤1:=by rw[bV];simp
   obtain⟨k',rfl⟩:∃ k',k=k'+1:=by
    rcases k with _|k'
    ·have:=hI.out.1;simp at this;omega
    ·exact⟨k',rfl⟩
   have HN:Hid (m / 128<128 ^ (k'+1)∧acc++[m % 128+128]++eK k' (m / 128)=aJ n∧Below w.heap.size w (wr.alloc (.cells #[.int .u8 (m % 128+128)] 5))):=by
    refine⟨?_,?_,hI.out.2.2.alloc hI.out.2.2.size _⟩
    ·have h1:=hI.out.1;rw[Int.pow_succ]at h1;omega
    ·rw[←hI.out.2.1,eK,if_pos (by omega)]
     simp
   clear hI
   go_wp2
   rw[tQ]
   go_roundg (k'+2)
   case measure=>omega
   case rel=>exact⟨k',m / 128,_,rfl,rfl,Nat.le_refl _,by omega,by omega,by simp;omega,HN.out⟩
  ·have d1:decide (128≤m)=false:=by simpa using hlt
   have b2:IntKind.u8.wrap m=m:=mP _ (by omega) (by omega)
   have hcv:=zL m wr (by omega)
   have z2:(aH [m]).size≤1:=by rw[bV];simp
   have HN:Hid (aJ n=acc++[m]):=by
    show _=_;rw[←hI.out.2.1];rcases k with _|k
    ·rfl
    ·rw[eK,if_neg (by omega)]
   have HB:Hid (Below w.heap.size w (wr.alloc (.cells #[.int .u8 m] 5))):=hI.out.2.2.alloc hI.out.2.2.size _;clear hI
   go_wp2
   go_ret;refine⟨?_,HB.out⟩;rw[HN.out,tQ]
   rfl
theorem qM(n:Int)(w:World)(hn:-1000000000≤n∧n≤1000000000) :
  Calls Tryz.prog 80 #[.int .i64 n] w fun e w'=>e=.returned (.string (aH (cJ n)))∧Below w.heap.size w w':=by
 by_cases h:0≤n
 ·have e:cJ n=aJ (2*n):=by rw[cJ,jE,if_neg (by omega)]
  rw[e];clear e
  go_enter Tryz.func80,Tryz.ntmps80
  go_wp2_with (go_at_call 78;refine(dY (2*n) _ (by omega)).mono ?_;rintro e w1 ⟨rfl,hb⟩)
  go_ret;exact⟨rfl,hb⟩
 ·have e:cJ n=aJ (-2*n-1):=by rw[cJ,jE,if_pos (by omega)]
  rw[e];clear e
  go_enter Tryz.func80,Tryz.ntmps80
  go_wp2_with (go_at_call 78;refine(dY (-2*n-1) _ (by omega)).mono ?_;rintro e w1 ⟨rfl,hb⟩)
  go_ret;exact⟨rfl,hb⟩
theorem tR(l:List Int)(w:World)(hl:l.length≤1000000000)(hv:∀ c∈l,0≤c∧c<256) :
  Calls Tryz.prog 81 #[.string (aH l)] w fun e w'=>e=.returned (.string (aH (fE l)))∧Below w.heap.size w w':=by
 have Hv:=aB hv;clear hv;have hz:(aH l).size=l.length:=bV l
 go_enter Tryz.func81,Tryz.ntmps81
 go_wp2
 go_loopg [3,4] (l.length+3) (fun g s3 s4 wr=>∃ (i:Nat) (h:Int),s3=.int .i64 h∧s4=.int .i64 i∧l.length-i+2≤g∧i≤l.length∧0≤h∧h<4294967296∧wr=w∧Hid (h=eL (l.take i)))
 case atStart=>exact⟨0,5381,rfl,rfl,by omega,by omega,by omega,by omega,rfl,rfl⟩
 case round=>
  obtain⟨i,h,rfl,rfl,hg,hi,h0,h1,rfl,hI⟩:=hrel
  by_cases hlt:i<l.length
  ·have d1:decide ((i:Int)<(l.length:Int))=true:=by simp;omega
   have hii:(i:Int)<(l.length:Int):=by omega
   have hgt:(i:Nat)<(aH l).size:=by omega
   have HX:Hid (((aH l)[i].toNat:Int)=l[i]):=by
    have hb:=Hv.out l[i] (List.getElem_mem hlt);have e1:(aH l)[i]=UInt8.ofNat l[i].toNat:=by simp[aH,ByteArray.getElem_eq_getElem_data]
    have h8:(UInt8.ofNat l[i].toNat).toNat=l[i].toNat % 256:=UInt8.toNat_ofNat';show _=_;rw[e1,h8];omega
   have HS:Hid (eL (l.take (i+1))=uW h l[i]):=by
    show _=_;rw[List.take_succ_eq_append_getElem hlt,eL,List.foldl_append,hI.out]
    rfl
   have Hb:=aB (Hv.out l[i] (List.getElem_mem hlt))
   go_wp2
   go_roundg (l.length-(i+1)+2)
   case measure=>omega
   case rel=>
    have e:=HX.out;have hb:=Hb.out;have hs:=aBn h l[i];generalize l[i]=c at e hb HS hs;refine⟨i+1,uW h c,?_,by go_num,Nat.le_refl _,by omega,hs.1,hs.2,rfl,HS.out.symm⟩
    rw[e];simp only[wrap64,IntKind.wrap_i64];congr 1;have w1:IntKind.i64.wrap c=c:=by rw[IntKind.wrap_i64];omega
    rw[show(c+9223372036854775808) % 18446744073709551616-9223372036854775808=c by omega,show(h*33+c+9223372036854775808) % 18446744073709551616-9223372036854775808=h*33+c by omega,Int.tmod_eq_emod_of_nonneg (by omega)]
    unfold uW;omega
  ·have d1:decide ((i:Int)<(l.length:Int))=false:=by simp;omega
   have e1:Int.tdiv h 16777216=h / 16777216:=Int.tdiv_eq_ediv_of_nonneg h0;have e2:Int.tdiv h 65536=h / 65536:=Int.tdiv_eq_ediv_of_nonneg h0;have e3:Int.tdiv h 256=h / 256:=Int.tdiv_eq_ediv_of_nonneg h0;have e4:Int.tmod h 256=h % 256:=Int.tmod_eq_emod_of_nonneg h0;have e5:Int.tmod (h / 65536) 256=h / 65536 % 256:=Int.tmod_eq_emod_of_nonneg (by omega)
   have e6:Int.tmod (h / 256) 256=h / 256 % 256:=Int.tmod_eq_emod_of_nonneg (by omega)
   have b1:IntKind.u8.wrap (h / 16777216)=h / 16777216:=mP _ (by omega) (by omega)
   have b2:IntKind.u8.wrap (h / 65536 % 256)=h / 65536 % 256:=mP _ (by omega) (by omega)
   have b3:IntKind.u8.wrap (h / 256 % 256)=h / 256 % 256:=mP _ (by omega) (by omega)
   have b4:IntKind.u8.wrap (h % 256)=h % 256:=mP _ (by omega) (by omega)
   have hcv:=aD9 (h / 16777216) (h / 65536 % 256) (h / 256 % 256) (h % 256) wr (by intro x hx;simp at hx;omega)
   have HE:Hid (fE l=[h / 16777216,h / 65536 % 256,h / 256 % 256,h % 256]):=by
    show _=_;have hh:=hI.out;rw[List.take_of_length_le (by omega)]at hh
    rw[fE,←hh];congr 1
   have HB:=aB (aE wr (.cells #[.int .u8 (h / 16777216),.int .u8 (h / 65536 % 256),.int .u8 (h / 256 % 256),.int .u8 (h % 256)] 5));clear hI
   go_wp2
   go_ret;exact⟨by rw[HE.out];rfl,HB.out⟩
def gW:Nat→Int→Int→List Int→Int×List Int×Bool
 | 0,_,_,l=>(0,l,false)
 | _+1,_,_,[]=>(0,[],false)
 | f+1,n,p,b::l=>if b<128 then (n+b % 128*p,l,true)else gW f (n+b % 128*p) (p*128) l
def aW(lo hi:Int)(l:List Int)(bad:Bool):Int×List Int×Bool:=
 if (gW 7 0 1 l).2.2 then ((gW 7 0 1 l).1,(gW 7 0 1 l).2.1,bad||!inB (gW 7 0 1 l).1 lo hi)else (0,(gW 7 0 1 l).2.1,true)
structure RdS(w:World)(rb:Nat)(all l:List Int)(bad:Bool):Prop where
 str:w.cell? ⟨rb,0,none⟩=some (.string (aH all))
 pos:∃ i:Nat,i≤all.length∧all.drop i=l∧w.cell? ⟨rb,1,none⟩=some (.int .i64 i)
 bad:w.cell? ⟨rb,2,none⟩=some (.bool bad)
 room:Room w rb 3
theorem RdS.only{w w':World}{rb:Nat}{all l:List Int}{bad:Bool}{S:Nat→Prop}(h:RdS w rb all l bad)(ho:Only S w w')(hr:¬S rb):RdS w' rb all l bad:=by
 obtain⟨i,h1,h2,h3⟩:=h.pos;exact⟨ho.at h.str hr,⟨i,h1,h2,ho.at h3 hr⟩,ho.at h.bad hr,h.room.only ho hr⟩
theorem RdS.below{w w':World}{rb:Nat}{all l:List Int}{bad:Bool}(h:RdS w rb all l bad)(hb:Below w.heap.size w w'):RdS w' rb all l bad:=h.only (Only.new (S:=fun _=>False) hb) (by simp)
theorem RdS.lt{w:World}{rb:Nat}{all l:List Int}{bad:Bool}(h:RdS w rb all l bad):rb<w.heap.size:=aC h.str
theorem RdS.step{w:World}{rb:Nat}{all l l':List Int}{bad:Bool}(h:RdS w rb all l bad)(i:Nat)(hi:i≤all.length)(hl:all.drop i=l'):RdS (w.setCell ⟨rb,1,none⟩ (.int .i64 i)) rb all l' bad:=by
 refine⟨?_,⟨i,hi,hl,World.cell?_setCell_same' _ _ _ (h.room 1 (by omega)).1⟩,?_,h.room.setCell _ _⟩
 ·rw[World.cell?_setCell_other _ _ _ _ (by simp)];exact h.str
 ·rw[World.cell?_setCell_other _ _ _ _ (by simp)];exact h.bad
theorem RdS.mark{w:World}{rb:Nat}{all l:List Int}{bad:Bool}(h:RdS w rb all l bad)(b:Bool):RdS (w.setCell ⟨rb,2,none⟩ (.bool b)) rb all l b:=by
 obtain⟨i,h1,h2,h3⟩:=h.pos;refine⟨?_,⟨i,h1,h2,?_⟩,World.cell?_setCell_same' _ _ _ (h.room 2 (by omega)).1,h.room.setCell _ _⟩
 ·rw[World.cell?_setCell_other _ _ _ _ (by simp)];exact h.str
 ·rw[World.cell?_setCell_other _ _ _ _ (by simp)];exact h3
theorem aEv(n p:Int)(k:Nat)(l:List Int)(h:k=0∨l=[]):gW k n p l=(0,l,false):=by
 rcases h with rfl|rfl
 ·rfl
 ·cases k<;>rfl
theorem mY(rb:Nat)(all l:List Int)(bad:Bool)(lo hi:Int)(w:World)(h:RdS w rb all l bad)(hv:∀ c∈all,0≤c∧c<256)(hl:all.length≤1000000000) :
  Calls Tryz.prog 67 #[.pointer (some ⟨rb,0,none⟩),.int .i64 lo,.int .i64 hi] w fun e w'=>e=.returned (.int .i64 (aW lo hi l bad).1)∧Only (·=rb) w w'∧RdS w' rb all (aW lo hi l bad).2.1 (aW lo hi l bad).2.2:=by
 have Hv:=aB hv;have H:=aB h;have hz:(aH all).size=all.length:=bV all;have hrl:=h.lt;clear hv h
 go_enter Tryz.func67,Tryz.ntmps67
 go_wp2
 go_loopg [7,8,9,10,11] 9 (fun g s7 s8 s9 _ _ wr=>∃ (k:Nat) (n p:Int) (m:List Int),s7=.int .i64 n∧s8=.int .i64 p∧s9=.int .i64 k∧7-k+1≤g∧k≤7∧0≤n∧n<p∧1≤p∧p≤562949953421312∧Hid (p=128 ^ k∧gW (7-k) n p m=gW 7 0 1 l∧Only (·=rb) w wr∧RdS wr rb all m bad))
 case atStart=>exact⟨0,0,1,l,rfl,rfl,rfl,by omega,by omega,by omega,by omega,by omega,by omega,by simp,rfl,Only.refl _ _,H.out⟩
 case round=>
  obtain⟨k,n,p,m,rfl,rfl,rfl,hg,hk,hn0,hn1,hp0,hp1,hI⟩:=hrel;obtain⟨hp,hlen,hO,hR⟩:=hI.out;obtain⟨i,hile,hd,c1⟩:=hR.pos;have c0:=hR.str;have c2:=hR.bad;have f1:=(hR.room 1 (by omega)).2
  have f2:=(hR.room 2 (by omega)).2
  have hzr:=hO.size
  by_cases hyes:k<7∧i<all.length
  ·obtain⟨hk7,hil⟩:=hyes;have d1:decide ((k:Int)<7)=true:=by simp;omega
   have d2:decide ((i:Int)<(all.length:Int))=true:=by simp;omega
   have hgt:(i:Nat)<(aH all).size:=by omega
   have hp6:p≤4398046511104:=by
    have:k=0∨k=1∨k=2∨k=3∨k=4∨k=5∨k=6:=by omega
    rcases this with rfl|rfl|rfl|rfl|rfl|rfl|rfl<;>simp at hp<;>omega
   have HX:Hid (((aH all)[i].toNat:Int)=all[i]):=by
    have hb:=Hv.out all[i] (List.getElem_mem hil);have e1:(aH all)[i]=UInt8.ofNat all[i].toNat:=by simp[aH,ByteArray.getElem_eq_getElem_data]
    have h8:(UInt8.ofNat all[i].toNat).toNat=all[i].toNat % 256:=UInt8.toNat_ofNat';show _=_;rw[e1,h8];omega
   have hb:=Hv.out all[i] (List.getElem_mem hil);have HF:Hid (gW 7 0 1 l=if all[i]<128 then (n+all[i] % 128*p,all.drop (i+1),true)else gW (7-(k+1)) (n+all[i] % 128*p) (p*128) (all.drop (i+1))):=by
    show _=_;rw[←hlen,←hd,List.drop_eq_getElem_cons hil,show 7-k=(7-(k+1))+1 by omega,gW]
   have HP:Hid (p*128=128 ^ (k+1)):=by show _=_;rw[hp,Int.pow_succ]
   have HOR:Hid (∀ q,Only (·=rb) w ((wr.drewN q).setCell ⟨rb,1,none⟩ (.int .i64 ((i:Int)+1)))∧RdS ((wr.drewN q).setCell ⟨rb,1,none⟩ (.int .i64 ((i:Int)+1))) rb all (all.drop (i+1)) bad):=by
    intro q;refine⟨(hO.trans (Only.new (below_drewN (Below.refl _ _) _))).setCell (p:=⟨rb,1,none⟩) rfl _,?_⟩;have:=(hR.below (below_drewN (Below.refl _ _) q)).step (i+1) (by omega) rfl
    simpa using this
   generalize all[i]=b at HX hb HF;have hw1:IntKind.i64.wrap ((i:Int)+1)=(i:Int)+1:=by rw[IntKind.wrap_i64];omega
   have hk1:IntKind.i64.wrap ((k:Int)+1)=(k:Int)+1:=by rw[IntKind.wrap_i64];omega
   have hbp:0≤b % 128*p∧b % 128*p≤127*p:=⟨Int.mul_nonneg (by omega) (by omega),Int.mul_le_mul_of_nonneg_right (by omega) (by omega)⟩
   have m1:wrap64 (b % 128*p)=b % 128*p:=by simp only[wrap64];omega
   have m2:wrap64 (n+b % 128*p)=n+b % 128*p:=by simp only[wrap64];omega
   have m3:wrap64 (p*128)=p*128:=by simp only[wrap64];omega
   have m4:Int.tmod b 128=b % 128:=Int.tmod_eq_emod_of_nonneg hb.1;have m5:wrap64 b=b:=by simp only[wrap64];omega
   have hx:=HX.out;have Hbp:Hid (0≤n+b % 128*p∧n+b % 128*p<p*128):=⟨by omega,by omega⟩
   clear hI hp hlen hO hR hd HX hbp
   by_cases hb8:b<128
   ·have d3:decide (b<128)=true:=by simpa using hb8
    have HF2:Hid (aW lo hi l bad=(n+b % 128*p,all.drop (i+1),bad||!inB (n+b % 128*p) lo hi)):=by
     show _=_;unfold aW;rw[HF.out,if_pos hb8]
     rfl
    clear HF;rcases bad with _|_
    all_goals
     go_wp2_with fail
     go_quiet (fail)
     go_wp2_with fail
     go_quiet (fail)
     go_wp2_with (go_at_call 57;refine(dF _ _ _ _).mono ?_;rintro e w1 ⟨rfl,rfl⟩)
     go_ret;rw[HF2.out];refine⟨rfl,?_,?_⟩
     ·exact(HOR.out _).1.setCell (p:=⟨rb,2,none⟩) rfl _
     ·exact(HOR.out _).2.mark _
   ·have d3:decide (b<128)=false:=by simpa using hb8
    have HF2:Hid (gW (7-(k+1)) (n+b % 128*p) (p*128) (all.drop (i+1))=gW 7 0 1 l):=by
     show _=_;rw[HF.out,if_neg hb8]
    clear HF
    go_wp2_with fail
    go_quiet (fail)
    go_wp2_with fail
    go_quiet (fail)
    go_wp2_with fail
    go_roundg (7-(k+1)+1)
    case measure=>omega
    case rel=>exact⟨k+1,n+b % 128*p,p*128,all.drop (i+1),congrArg (Value.int .i64) m2,rfl,by go_num,Nat.le_refl _,by omega,Hbp.out.1,Hbp.out.2,by omega,by omega,HP.out,HF2.out,(HOR.out _).1,(HOR.out _).2⟩
  ·have HF:Hid (aW lo hi l bad=(0,m,true)):=by
    show _=_;have he:gW (7-k) n p m=(0,m,false):=by
     refine aEv n p _ m ?_
     by_cases hk7:k<7
     ·right;rw[←hd];exact List.drop_of_length_le (by omega)
     ·left;omega
    unfold aW;rw[←hlen,he]
    rfl
   have HOR:Hid (∀ q,Only (·=rb) w (wr.drewN q)∧RdS (wr.drewN q) rb all m bad):=by
    intro q;exact⟨hO.trans (Only.new (below_drewN (Below.refl _ _) _)),hR.below (below_drewN (Below.refl _ _) q)⟩
   by_cases hk7:k<7
   ·have d1:decide ((k:Int)<7)=true:=by simp;omega
    have d2:decide ((i:Int)<(all.length:Int))=false:=by simp;omega
    have d3:decide (i<all.length)=false:=by simp;omega
    clear hI hp hlen hO hR hd hyes
    go_wp2_with fail
    go_quiet (fail)
    go_wp2_with fail
    go_ret;rw[HF.out];exact⟨rfl,(HOR.out _).1.setCell (p:=⟨rb,2,none⟩) rfl _,(HOR.out _).2.mark _⟩
   ·have d1:decide ((k:Int)<7)=false:=by simp;omega
    clear hI hp hlen hO hR hd hyes
    go_wp2_with fail
    go_quiet (fail)
    go_wp2_with fail
    go_ret;rw[HF.out];exact⟨rfl,(HOR.out _).1.setCell (p:=⟨rb,2,none⟩) rfl _,(HOR.out _).2.mark _⟩
theorem RdP.only{w w':World}{rb g:Nat}{l:List Int}{flt:Bool}{U:Nat→Prop}(h:RdP w rb g l flt)(ho:Only U w w')(hr:¬U rb)(hg:¬U g):RdP w' rb g l flt:=by
 obtain⟨off,cap,hc,hlc,hrow⟩:=h.cell;exact⟨⟨off,cap,ho.at hc hr,hlc,hrow.only ho hg⟩,ho.at h.flt hr,h.room.only ho hr,h.ne,h.bytes,h.len,Nat.lt_of_lt_of_le h.glt ho.size⟩
theorem RdP.lt{w:World}{rb g:Nat}{l:List Int}{flt:Bool}(h:RdP w rb g l flt):rb<w.heap.size:=aC h.flt
theorem dU(low high:Int)(hl:0≤low)(l:List Int)(flt:Bool):(aL low high l flt).1=0∨(low≤(aL low high l flt).1∧(aL low high l flt).1≤high):=by
 unfold aL
 split
 ·simp
 ·rename_i h
  simp only[not_or]at h;right;simp only;omega
def lO(v:Int):Int:=if v % 2=1 then -((v+1) / 2)else v / 2
def eE(most:Int)(l:List Int)(flt:Bool):Int×List Int×Bool:=(lO (aL 0 (2*most) l flt).1,(aL 0 (2*most) l flt).2)
theorem zB(rb g:Nat)(l:List Int)(flt:Bool)(w:World)(h:RdP w rb g l flt) :
  Calls Tryz.prog 105 #[.pointer (some ⟨rb,0,none⟩),.int .i64 1000000000] w fun e w'=>e=.returned (.int .i64 (eE 1000000000 l flt).1)∧Only (·=rb) w w'∧RdP w' rb g (eE 1000000000 l flt).2.1 (eE 1000000000 l flt).2.2:=by
 have H:=aB h;have hle:=dU 0 2000000000 (by omega) l flt
 have HS:Hid (eE 1000000000 l flt=(lO (aL 0 2000000000 l flt).1,(aL 0 2000000000 l flt).2)):=by show _=_;rfl
 clear h
 go_enter Tryz.func105,Tryz.ntmps105
 go_wp2_with fail
 refine(cN rb g l flt 0 2000000000 w H.out).mono ?_;rintro e w1 ⟨rfl,ho1,hr1⟩;have HO1:=aB ho1;have HR1:=aB hr1;clear ho1 hr1;generalize aL 0 2000000000 l flt=p at hle HS HR1 ⊢;obtain⟨v,l',f'⟩:=p;simp only at hle HS HR1 ⊢;have hv:0≤v∧v≤2000000000:=by omega
 obtain⟨hv0,hv1⟩:=hv;have t1:v.tmod 2=v % 2:=Int.tmod_eq_emod_of_nonneg hv0;have w1':IntKind.i64.wrap (v % 2)=v % 2:=by rw[IntKind.wrap_i64];omega
 by_cases hodd:v % 2=1
 ·have d1:(v % 2==1)=true:=by rw[beq_iff_eq];exact hodd
  have w2:IntKind.i64.wrap (v+1)=v+1:=by rw[IntKind.wrap_i64];omega
  have w3:IntKind.i64.wrap (-(v+1))=-(v+1):=by rw[IntKind.wrap_i64];omega
  have t2:(-(v+1)).tdiv 2=-((v+1) / 2):=by
   rw[Int.neg_tdiv,Int.tdiv_eq_ediv_of_nonneg (by omega)]
  have w4:IntKind.i64.wrap (-((v+1) / 2))=-((v+1) / 2):=by rw[IntKind.wrap_i64];omega
  go_wp2_with fail
  go_ret;rw[HS.out];refine⟨?_,HO1.out,HR1.out⟩;simp[lO,hodd,w2,w3,t2,w4]
 ·have d1:(v % 2==1)=false:=by rw[beq_eq_false_iff_ne];exact hodd
  have t2:v.tdiv 2=v / 2:=Int.tdiv_eq_ediv_of_nonneg hv0;have w4:IntKind.i64.wrap (v / 2)=v / 2:=by rw[IntKind.wrap_i64];omega
  go_wp2_with fail
  go_ret;rw[HS.out];refine⟨?_,HO1.out,HR1.out⟩;simp[lO,hodd,t2,w4]
theorem zC(rb g:Nat)(l:List Int)(flt:Bool)(w:World)(h:RdP w rb g l flt) :
  Calls Tryz.prog 71 #[.pointer (some ⟨rb,0,none⟩)] w fun e w'=>e=.returned (.bool (!flt&&l.isEmpty))∧Below w.heap.size w w':=by
 obtain⟨off,cap,hc,hlc,hrow⟩:=h.cell;have hf:=h.flt;clear h hrow;rcases flt with _|_
 ·rcases l with _|⟨x,l⟩
  ·go_enter Tryz.func71,Tryz.ntmps71
   go_wp2
   go_ret;exact⟨rfl,Below.refl _ _⟩
  ·have d:(((l.length:Int)+1)==0)=false:=by rw[beq_eq_false_iff_ne];omega
   simp only[List.length_cons]at hc
   go_enter Tryz.func71,Tryz.ntmps71
   go_wp2
   go_ret;exact⟨by simp[d],Below.refl _ _⟩
 ·go_enter Tryz.func71,Tryz.ntmps71
  go_wp2
  go_ret;exact⟨rfl,Below.refl _ _⟩
theorem tS:∀ (f:Nat) (n p:Int) (l:List Int),(∀ c∈l,0≤c∧c<256)→0≤n→n<p→0≤(gW f n p l).1∧(gW f n p l).1<p*128 ^ f
 | 0,n,p,l,_,h0,h1=>by simp[gW];omega
 | f+1,n,p,[],_,h0,h1=>by
  simp only[gW];have:(0:Int)<128 ^ (f+1):=Int.pow_pos (by omega)
  exact⟨Int.le_refl _,Int.mul_pos (by omega) this⟩
 | f+1,n,p,b::l,hb,h0,h1=>by
  have hbb:=hb b (List.mem_cons_self ..);have hm:0≤b % 128*p∧b % 128*p≤127*p:=⟨Int.mul_nonneg (by omega) (by omega),Int.mul_le_mul_of_nonneg_right (by omega) (by omega)⟩
  have hpow:(1:Int)≤128 ^ f:=Int.pow_pos (by omega)
  rw[gW]
  split
  ·refine⟨by show 0≤n+b % 128*p;omega,?_⟩
   show n+b % 128*p<p*128 ^ (f+1);have h2:p*128*1≤p*128*128 ^ f:=Int.mul_le_mul_of_nonneg_left hpow (by omega)
   have h3:p*128 ^ (f+1)=p*128*128 ^ f:=by rw[Int.pow_succ,Int.mul_assoc,Int.mul_comm (128 ^ f) 128]
   omega
  ·have ih:=tS f (n+b % 128*p) (p*128) l (fun c hc=>hb c (List.mem_cons_of_mem _ hc)) (by omega) (by omega)
   have h3:p*128 ^ (f+1)=p*128*128 ^ f:=by rw[Int.pow_succ,Int.mul_assoc,Int.mul_comm (128 ^ f) 128]
   rw[h3];exact ih
theorem zM:∀ (f:Nat) (n p:Int) (l:List Int),∃ a,l=a++(gW f n p l).2.1
 | 0,n,p,l=>⟨[],rfl⟩
 | f+1,n,p,[]=>⟨[],rfl⟩
 | f+1,n,p,b::l=>by
  rw[gW]
  split
  ·exact⟨[b],rfl⟩
  ·obtain⟨a,ha⟩:=zM f (n+b % 128*p) (p*128) l;exact⟨b::a,by rw[List.cons_append,←ha]⟩
theorem eC(lo hi:Int)(l:List Int)(bad:Bool)(hb:∀ c∈l,0≤c∧c<256):0≤(aW lo hi l bad).1∧(aW lo hi l bad).1<562949953421312:=by
 have:=tS 7 0 1 l hb (by omega) (by omega)
 unfold aW
 split
 ·simpa using this
 ·simp
theorem aEw(lo hi:Int)(l:List Int)(bad:Bool):∃ a,l=a++(aW lo hi l bad).2.1:=by
 obtain⟨a,ha⟩:=zM 7 0 1 l;refine⟨a,?_⟩;unfold aW
 split<;>exact ha
theorem bC{lo hi:Int}{l:List Int}{bad:Bool}(hb:∀ c∈l,0≤c∧c<256):∀ c∈(aW lo hi l bad).2.1,0≤c∧c<256:=by
 obtain⟨a,ha⟩:=aEw lo hi l bad;intro c hc;exact hb c (by rw[ha];exact List.mem_append_right _ hc)
theorem bJ{lo hi:Int}{l:List Int}{bad:Bool}(h:(aW lo hi l bad).2.2=false):bad=false∧lo≤(aW lo hi l bad).1∧(aW lo hi l bad).1≤hi:=by
 unfold aW at h ⊢
 split at h
 ·rename_i hs
  simp only[Bool.or_eq_false_iff,Bool.not_eq_false']at h;rw[if_pos hs];have:=h.2;simp[inB]at this;exact⟨h.1,this⟩
 ·simp at h
def fM(l:List Int)(bad:Bool):Int×List Int×Bool:=(lO (aW 0 2000000000 l bad).1,(aW 0 2000000000 l bad).2)
theorem RdS.bytes{w:World}{rb:Nat}{all l:List Int}{bad:Bool}(h:RdS w rb all l bad)(hv:∀ c∈all,0≤c∧c<256):∀ c∈l,0≤c∧c<256:=by
 obtain⟨i,_,hd,_⟩:=h.pos;intro c hc;rw[←hd]at hc;exact hv c (List.mem_of_mem_drop hc)
theorem wH(rb:Nat)(all l:List Int)(bad:Bool)(w:World)(h:RdS w rb all l bad)(hv:∀ c∈all,0≤c∧c<256)(hl:all.length≤1000000000) :
  Calls Tryz.prog 68 #[.pointer (some ⟨rb,0,none⟩)] w fun e w'=>e=.returned (.int .i64 (fM l bad).1)∧Only (·=rb) w w'∧RdS w' rb all (fM l bad).2.1 (fM l bad).2.2:=by
 have hN:=mY rb all l bad 0 2000000000 w h hv hl;have hr:=eC 0 2000000000 l bad (h.bytes hv);unfold fM;generalize aW 0 2000000000 l bad=r at hN hr;obtain⟨v,l1,f1⟩:=r;simp only at hN hr ⊢;have HN:=aB hN;clear hN;have e1:Int.tmod v 2=v % 2:=Int.tmod_eq_emod_of_nonneg hr.1
 by_cases ho:v % 2=0
 ·have d:(v % 2==0)=true:=by simpa using ho
  have e2:Int.tdiv v 2=v / 2:=Int.tdiv_eq_ediv_of_nonneg hr.1;have hu:lO v=v / 2:=by rw[lO,if_neg (by omega)]
  rw[hu];clear hu ho
  go_enter Tryz.func68,Tryz.ntmps68
  go_wp2_with (go_at_call 67;refine HN.out.mono ?_;rintro e w1 ⟨rfl,hO,hR⟩)
  go_ret;exact⟨rfl,hO,hR⟩
 ·have d:(v % 2==0)=false:=by simpa using ho
  have hu:lO v=-((v+1) / 2):=by rw[lO,if_pos (by omega)]
  have e2:Int.tdiv (-(v+1)) 2=-((v+1) / 2):=by rw[Int.neg_tdiv,Int.tdiv_eq_ediv_of_nonneg (by omega)]
  have e3:wrap64 (v+1)=v+1:=by simp only[wrap64];omega
  have e4:wrap64 (-(v+1))=-(v+1):=by simp only[wrap64];omega
  rw[hu];clear hu ho
  go_enter Tryz.func68,Tryz.ntmps68
  go_wp2_with (go_at_call 67;refine HN.out.mono ?_;rintro e w1 ⟨rfl,hO,hR⟩)
  go_ret;refine⟨?_,hO,hR⟩
  first|rfl|(simp;done)|(rw[←e2];simp)
theorem rI{a b:List Int}(ha:∀ c∈a,0≤c∧c<256)(hb:∀ c∈b,0≤c∧c<256):((aH a).toList==(aH b).toList)=decide (a=b):=by
 by_cases h:a=b
 ·subst h;simp
 ·rw[aE6 ha hb h];simp[h]
theorem mM(l:List Int)(a b:Nat):(aH l).extract a b=aH ((l.take b).drop a):=by
 refine ByteArray.ext ?_;simp[aH,ByteArray.data_extract,List.map_drop,List.map_take];rw[List.drop_take]
theorem tT(hd l:List Int)(w:World)(hv:∀ c∈l,0≤c∧c<256)(hl:l.length≤1000000000)(hhl:hd.length=4)(hhb:∀ c∈hd,0≤c∧c<256) :
  Calls Tryz.prog 66 #[.string (aH l),.string (aH hd)] w fun e w'=>e=.returned (.int .i64 (aU hd l))∧Below w.heap.size w w':=by
 have Hv:=aB hv;have Hhb:=aB hhb;have hz:(aH l).size=l.length:=bV l;have hz2:(aH hd).size=4:=by rw[bV,hhl]
 clear hv hhb hhl
 by_cases h8:l.length<8
 ·have HF:Hid (aU hd l=4):=by show _=_;rw[aU,if_pos (.inl h8)]
  have d1:decide ((l.length:Int)<8)=true:=by simp;omega
  go_enter Tryz.func66,Tryz.ntmps66
  go_wp2
  go_ret;rw[HF.out];exact⟨rfl,Below.refl _ _⟩
 ·have d1:decide ((l.length:Int)<8)=false:=by simp;omega
  have h8':8≤l.length:=by omega
  have x1:(aH l).extract 0 4=aH (l.take 4):=by rw[mM];rfl
  have x2:(aH l).extract 0 (l.length-4)=aH (l.take (l.length-4)):=by rw[mM];rfl
  have x3:(aH l).extract (l.length-4) l.length=aH (l.drop (l.length-4)):=by rw[mM,List.take_length]
  have t1:∀ c∈l.take 4,0≤c∧c<256:=fun c hc=>Hv.out c (List.mem_of_mem_take hc);have t2:∀ c∈l.take (l.length-4),0≤c∧c<256:=fun c hc=>Hv.out c (List.mem_of_mem_take hc);have t3:∀ c∈l.drop (l.length-4),0≤c∧c<256:=fun c hc=>Hv.out c (List.mem_of_mem_drop hc);have q1:=rI t1 Hhb.out;have q2:=rI (jC (l.take (l.length-4))) t3;have e4:((l.length:Int)-4).toNat=l.length-4:=by omega
  have HS:=aB (tR (l.take (l.length-4)) w (by simp;omega) t2)
  clear t1 t2 t3
  by_cases h4:l.take 4=hd
  ·have q1':((aH (l.take 4)).toList==(aH hd).toList)=true:=by rw[q1];simpa using h4
   have Hq1:=aB h4;clear q1 h4
   by_cases h5:fE (l.take (l.length-4))=l.drop (l.length-4)
   ·have q2':((aH (fE (l.take (l.length-4)))).toList==(aH (l.drop (l.length-4))).toList)=true:=by rw[q2];simpa using h5
    have HF:Hid (aU hd l=0):=by show _=_;rw[aU,if_neg (by rintro (h|h);exact h8 h;exact h Hq1.out),if_neg (fun h=>h h5.symm)]
    clear q2 h5
    go_enter Tryz.func66,Tryz.ntmps66
    go_wp2_with (go_at_call 81;refine HS.out.mono ?_;rintro e w1 ⟨rfl,hb1⟩)
    go_ret;rw[HF.out];exact⟨rfl,hb1⟩
   ·have q2':((aH (fE (l.take (l.length-4)))).toList==(aH (l.drop (l.length-4))).toList)=false:=by rw[q2];simpa using h5
    have HF:Hid (aU hd l=5):=by show _=_;rw[aU,if_neg (by rintro (h|h);exact h8 h;exact h Hq1.out),if_pos (fun h=>h5 h.symm)]
    clear q2 h5
    go_enter Tryz.func66,Tryz.ntmps66
    go_wp2_with (go_at_call 81;refine HS.out.mono ?_;rintro e w1 ⟨rfl,hb1⟩)
    go_ret;rw[HF.out];exact⟨rfl,hb1⟩
  ·have q1':((aH (l.take 4)).toList==(aH hd).toList)=false:=by rw[q1];simpa using h4
   have HF:Hid (aU hd l=4):=by show _=_;rw[aU,if_pos (.inr h4)]
   clear q1 h4
   go_enter Tryz.func66,Tryz.ntmps66
   go_wp2
   go_ret;rw[HF.out];exact⟨rfl,Below.refl _ _⟩
end Go.Proofs.YtndlmgocldckfaaGreat
