import Derived.Test.YtndlmgocldckfaaGreatG43
import Derived.Test.YtndlmgocldckfaaGreatG44
import Derived.Test.YtndlmgocldckfaaGreatRows
import Derived.WalkKit
import Derived.ProofKit
import Derived.OpenShut
import Derived.ChangeOld
import Derived.SizedLaws
import Derived.Deep.CondSized
import Derived.Below
namespace Go.Proofs.YtndlmgocldckfaaGreat
open Go.ChangeShapes Go.WideShapes Go.ChangeAt Go.RowKit Go.Deep Go.Joins
set_option linter.unusedVariables false
set_option linter.unusedSimpArgs false
set_option maxRecDepth 100000
set_option maxHeartbeats 4000000
theorem ownS:ownKnob Tryz.prog.godebug=none:=by kernel_rfl
theorem aEc:laidOutB Tryz.prog=true:=by kernel_rfl
theorem aFl(sv:Value)(os:List OpD)(w:World)(hsrc:eO w sv os.length (bP os))(hos:∀ o∈os,OpOK w.heap.size w o)(hks:∀ o∈os,traceK w.heap.size w o)(hone:∀ u∈bP os,u.oneCell'=true)(hn:(os.length+11)*160≤140737488355328)(hlen:os.length≤1048576) :
  Calls Tryz.prog 7 #[sv] w fun e w'=>e=.returned (.bool true)∧Below w.heap.size w w':=by
 obtain⟨W,hW⟩:∃ W,W=w.alloc (.cells #[.int .i64 1,.int .i64 2,.int .i64 3,.int .i64 4,.int .i64 5,.int .i64 6,.int .i64 7,.int .i64 8,.int .i64 9,.int .i64 10,.int .i64 11,.int .i64 12] 3):=⟨_,rfl⟩;have hb:Below w.heap.size w W:=by rw[hW];exact(Below.refl _ _).alloc (Nat.le_refl _) _
 have hz:W.heap.size=w.heap.size+1:=by rw[hW];simp
 have hrow:RowAt W w.heap.size 0 (ints wP):=by rw[hW];exact bD w _ (ints wP)
 have hsrc1:eO W sv os.length (bP os):=by
  rcases hsrc with h|⟨b,off,c,h,hr⟩|h
  ·exact .inl h
  ·refine .inr (.inl ⟨b,off,c,h,?_⟩);intro j v hv;have:=hr j v hv;exact aA hb this (aC this)
  ·exact .inr (.inr h)
 have key:=aCe traceK wP (os.length+11) _ (aF4 _ (by omega)) sv os w.heap.size W hsrc1 (fun o ho=>((hos o ho).below hb).mono (by omega)) (fun o ho=>((hks o ho).below hb).mono (by omega)) hone hn (Nat.le_refl _) hrow (by omega)
 have Key:=aB key;have HW:=aB hW;clear key hsrc hsrc1 hos hks hone hrow hW
 go_enter Tryz.func7,Tryz.ntmps7
 go_wp2_with fail
 rw[←HW.out];refine Key.out.mono ?_;rintro e w1 ⟨rfl,hb1⟩
 go_wp2
 go_ret;exact⟨rfl,hb.trans (hb1.mono (by omega))⟩
theorem aGa(os:Os)(started:os.Started)(H:Type)(enc:TypeId×Value→H)(F:Stop.Interp) :
  ReturnsInHanded {} Tryz.checked os 7 .any ((Rows.OpenSpec.upto Rows.allSpec).pre6 enc Tryz.prog Tryz.f7 Rows.allUptoRow.domain false) (((Rows.OpenSpec.upto Rows.allSpec).at F).post enc Tryz.prog Tryz.f7 false true false false):=by
 refine returnsInHanded_of_cond_sized (C:=Tryz.checked) (s:=Rows.OpenSpec.upto Rows.allSpec) (k:=Rows.uptoSmall) rfl ownS started (by kernel_rfl) Tryz.func7
  (OpenSpec.witness (enc:=enc) (C:=Tryz.checked) (s:=Rows.OpenSpec.upto Rows.allSpec) (k:=Rows.uptoSmall) rfl false ⟨#[],#[.slice none 0 0],[]⟩ 8 (by kernel_rfl) (by kernel_rfl) (by kernel_rfl)
   (x:=([.nil],[],[])) (by kernel_rfl) rfl (by kernel_rfl)) ?_
 intro W base args ds gs before hval0 hW hcnd hk0 hwt0 _;have hval:∀ (j:Nat) t v,Tryz.f7.params[j]?=some t→args[j]?=some v→Value.okWide Tryz.prog W .any base t v:=hval0;have hwt:(DataW.weightsEach Tryz.prog (Tryz.f7.params.toList++DataSpec.varTypes Tryz.prog Rows.allSpec.plain) (ds++gs)).all (·≤reachBytes)=true:=hwt0
 have hW':=hW;obtain⟨p,q,hA0,hV,rfl,hfz,hnd⟩:=hW;have hA:DataW.TrodAll enc Tryz.prog W 0 (fun _=>true) true Tryz.f7.params.toList args.toList ds p:=hA0;rw[Tryz.params7]at hA hval hwt;obtain⟨v0,vs0,d0,ds0,p0,q0,hargs,rfl,rfl,h0,r0⟩:=trodAll_cons hA;obtain⟨rfl,rfl,rfl⟩:=trodAll_nil r0;obtain rfl:args=#[v0]:=by cases args;simp_all
 obtain⟨rfl,rfl⟩:=trodVars_none hV;obtain⟨a0,len0,cap0,rfl⟩:=okWide_slice Tryz.underlying22 (hval 0 22 v0 rfl rfl);have k0:=h0;have hk1:Rows.uptoSmall H [d0]=true:=hk0;have lt0:∀ x∈p0,x.block<W.heap.size:=by obtain⟨m,hm⟩:=k0;exact DataW.trod_lt m _ _ _ hm
 have wok:WOK 22 d0:=by
  intro n hn;have:=List.all_eq_true.1 hwt n (DataW.weights_mem_each (j:=0) rfl rfl n hn)
  simpa using this
 obtain⟨os,hsrc,hos,hks,hone,hlen,hl⟩:∃ os:List OpD,eO W (.slice a0 len0 cap0) os.length (bP os)∧(∀ o∈os,OpOK W.heap.size W o)∧(∀ o∈os,traceK W.heap.size W o)∧(∀ u∈bP os,u.oneCell'=true)∧(os.length+11)*160≤140737488355328∧os.length≤1048576:=by
  obtain⟨fuel,hf⟩:=h0;exact xE hf wok hk1
 clear hA0 hval0 hwt0;refine(aFl (.slice a0 len0 cap0) os W hsrc hos hks hone hlen hl).mono fun e W' ⟨he,bel⟩=>?_;subst he;exact⟨_,rfl,_,_,_,[],_,[],hW',trodAll_mk1 (shut_bool Tryz.underlying4 _),(trodAll_cons_mk (Below.trod aEc (by kernel_rfl) (of_decide_eq_true (by kernel_rfl)) k0 bel lt0) trodAll_mk0),rfl,bel.frame _,fun h=>by cases h⟩
theorem all_upto:Rows.AllUptoSaid:=
 OpenClaim.holds_of_cond 7 Tryz.f7 rfl rfl rfl rfl rfl rfl rfl ⟨rfl,rfl,rfl,rfl,rfl⟩ rfl rfl rfl rfl rfl (by kernel_rfl) Tryz.func7 (by kernel_rfl)
  (of_decide_eq_true (by kernel_rfl)) (by unfold Func.isWrapper;first|(rw[if_pos (by decide +kernel)];kernel_rfl)|(rw[if_neg (by decide +kernel)];exact⟨rfl,rfl⟩))
  (fun os started H enc _ F=>aGa os started H enc F)
end Go.Proofs.YtndlmgocldckfaaGreat
