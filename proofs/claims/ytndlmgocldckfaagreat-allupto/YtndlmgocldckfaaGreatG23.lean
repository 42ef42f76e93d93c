import Derived.Test.YtndlmgocldckfaaGreatG22
namespace Go.Proofs.YtndlmgocldckfaaGreat
open Go.RowKit
set_option linter.unusedVariables false
set_option linter.unusedSimpArgs false
set_option maxRecDepth 100000
set_option maxHeartbeats 4000000
theorem aEn{R:Nat→Prop}(cb gb:Nat)(ents:Int)(ks:List (List Ins))(draws:List Int)(s:KS)(a b:Nat)(ha:a<4)(hb:b<4)(hok:∀ j,-1000000000≤s.regs j∧s.regs j≤1000000000)(et en ek:Int)(E:Nat)(w:World)(h:RefC R w cb gb ents ks draws s)(he:1≤ents∧ents≤8)(hE:(E:Int)<ents) :
  Calls Tryz.prog 117 #[.pointer (some ⟨cb,0,none⟩),.agg #[.int .i64 3,.int .i64 (a:Int),.int .i64 (b:Int),.int .i64 0],.agg #[.int .i64 et,.int .i64 en,.int .i64 ek,.int .i64 (E:Int)]] w fun e w'=>eF R cb gb ents ks draws w ({s with regs:=cD s.regs (E*4+a) (fQ (s.regs (E*4+a)-s.regs (E*4+b)))},[],0) e w':=by
 obtain⟨cap,r1,r2,r3⟩:=h.c6;have H:=aB h;have hcl:=aC r1;have hgl:=aC (h.regs 0 (by omega))
 obtain⟨N,hN⟩:=Int.eq_ofNat_of_zero_le (show 0≤ents*4 by omega)
 have hNn:(ents*4).toNat=N:=by omega
 have hreg:=h.regs;have hrr:=h.rroom;rw[hNn]at r1 r2 hreg hrr;have hEN:E*4+4≤N:=by omega
 obtain⟨F,hF⟩:∃ F,F=E*4:=⟨_,rfl⟩;have w1:IntKind.i64.wrap ((E:Int)*4)=(F:Int):=by rw[IntKind.wrap_i64];omega
 have w2:IntKind.i64.wrap ((F:Int)+4)=(F:Int)+4:=by rw[IntKind.wrap_i64];omega
 have b1:(0:Int)≤(F:Int):=by omega
 have b2:(F:Int)≤(F:Int)+4:=by omega
 have b3:(F:Int)+4≤(cap:Int):=by omega
 have b4:¬cap=F:=by omega
 have b5:F+4≤cap:=by omega
 have b6:F≤F+4:=by omega
 have t4:((F:Int)+4).toNat=F+4:=by omega
 have t5:F+4-F=4:=by omega
 obtain⟨W1,hW1⟩:∃ W1,W1=(w.alloc (.cells #[.int .i64 3,.int .i64 (a:Int),.int .i64 (b:Int),.int .i64 0] 59)).alloc (.cells #[.int .i64 et,.int .i64 en,.int .i64 ek,.int .i64 (E:Int)] 143):=⟨_,rfl⟩;have hb1:Below w.heap.size w W1:=by rw[hW1];exact((Below.refl _ _).alloc (Nat.le_refl _) _).alloc (by simp) _
 have hzW1:W1.heap.size=w.heap.size+2:=by rw[hW1];simp
 have z1:=aA hb1 r1 hcl;have x3:W1.cell? ⟨w.heap.size+1,3,none⟩=some (.int .i64 (E:Int)):=by rw[hW1];simp[go_sem]
 have y0:W1.cell? ⟨w.heap.size,0,none⟩=some (.int .i64 3):=by rw[hW1];simp[go_sem]
 have y1:W1.cell? ⟨w.heap.size,1,none⟩=some (.int .i64 (a:Int)):=by rw[hW1];simp[go_sem]
 have y2:W1.cell? ⟨w.heap.size,2,none⟩=some (.int .i64 (b:Int)):=by rw[hW1];simp[go_sem]
 have y3:W1.cell? ⟨w.heap.size,3,none⟩=some (.int .i64 0):=by rw[hW1];simp[go_sem]
 have hreg1:∀ i,i<4→W1.cell? ⟨gb,F+i,none⟩=some (.int .i64 (s.regs (E*4+i))):=fun i hi=>by rw[hF];exact aA hb1 (hreg (E*4+i) (by omega)) hgl
 have hfro1:∀ i,i<4→W1.frozen? ⟨gb,F+i,none⟩=false:=fun i hi=>by rw[hF];exact(hb1.frozen (p:=⟨gb,E*4+i,none⟩) hgl).trans (hrr (E*4+i) (by omega)).2
 have Hreg1:=aB hreg1;have Hfro1:=aB hfro1;have HB1:=aB hb1;have HF:=aB hF;have H1:=aB (H.out.only (Only.new (S:=fun _=>False) hb1) (by simp) (by simp) (by simp))
 have HNn:=aB hNn;have b7:(0:Int)≤(a:Int):=by omega
 have b8:(a:Int)<4:=by omega
 have c7:(0:Int)≤(b:Int):=by omega
 have c8:(b:Int)<4:=by omega
 clear h hb1 hF hreg hrr hreg1 hfro1 hN hNn
 go_enter Tryz.func117,Tryz.ntmps117
 go_wp2_with fail
 rw[←hW1];clear hW1
 go_quiet (fail)
 obtain⟨W2,hW2⟩:∃ W2,W2=W1.drewN nq:=⟨_,rfl⟩;rw[←hW2];have hb2:Below W1.heap.size W1 W2:=by rw[hW2];exact below_drewN (Below.refl _ _) _
 have hz2:=hb2.size
 replace y0:=aA hb2 y0 (by omega)
 replace y1:=aA hb2 y1 (by omega)
 replace y2:=aA hb2 y2 (by omega)
 replace y3:=aA hb2 y3 (by omega)
 have Hreg2:Hid (∀ i,i<4→W2.cell? ⟨gb,F+i,none⟩=some (.int .i64 (s.regs (E*4+i)))):=fun i hi=>aA hb2 (Hreg1.out i hi) (by omega)
 have Hfro2:Hid (∀ i,i<4→W2.frozen? ⟨gb,F+i,none⟩=false):=fun i hi=>(hb2.frozen (p:=⟨gb,F+i,none⟩) (by show gb<_;omega)).trans (Hfro1.out i hi)
 have H2:=aB (H1.out.only (Only.new (S:=fun _=>False) hb2) (by simp) (by simp) (by simp))
 have HB2:Hid (Below w.heap.size w W2):=HB1.out.trans (hb2.mono (by omega))
 clear hW2 hb2 x3 z1;have HS:Hid (RefC R (W2.setCell ⟨gb,F+a,none⟩ (.int .i64 (fQ (s.regs (E*4+a)-s.regs (E*4+b))))) cb gb ents ks draws {s with regs:=cD s.regs (E*4+a) (fQ (s.regs (E*4+a)-s.regs (E*4+b)))}):=by rw[HF.out];exact H2.out.setReg (by have:=HNn.out;omega) _
 have HO:Hid (Only (fun b=>b=cb∨b=gb) w (W2.setCell ⟨gb,F+a,none⟩ (.int .i64 (fQ (s.regs (E*4+a)-s.regs (E*4+b)))))):=(Only.new HB2.out).setCell (p:=⟨gb,F+a,none⟩) (.inr rfl) _;have ca:=Hreg2.out a ha;have fa:=Hfro2.out a ha;have cb2:=Hreg2.out b hb;have hka:=hok (E*4+a);have hkb:=hok (E*4+b);have Hcut:=aB (zD (s.regs (E*4+a)-s.regs (E*4+b)));obtain⟨va,hva⟩:∃ va,va=s.regs (E*4+a):=⟨_,rfl⟩;obtain⟨vb,hvb⟩:∃ vb,vb=s.regs (E*4+b):=⟨_,rfl⟩;have HQ:Hid (∀ W',W'=(W2.setCell ⟨gb,F+a,none⟩ (.int .i64 (fQ (va-vb)))).drew→eF R cb gb ents ks draws w ({s with regs:=cD s.regs (E*4+a) (fQ (s.regs (E*4+a)-s.regs (E*4+b)))},[],0) (.returned (.tuple #[.slice none 0 0,.int .i64 0])) W'):=by
  rintro W' rfl;rw[hva,hvb];exact gG hcl hgl (HO.out.trans (Only.new (Below.refl _ _).drew)) (HS.out.only (Only.new (S:=fun _=>False) (Below.refl _ _).drew) (by simp) (by simp) (by simp))
 rw[←hva]at ca hka Hcut;rw[←hvb]at cb2 hkb Hcut;clear hva hvb;clear HS HO hok H2 HB2 Hreg2 Hfro2 HNn HB1 H1 Hreg1 Hfro1 H hz2 hzW1 w1 w2 b1 b2 b3 b4 b5 b6 t4 t5 r1 r2 r3 hcl hgl he hE hEN;have wv:IntKind.i64.wrap (va-vb)=va-vb:=by rw[IntKind.wrap_i64];omega
 clear hka hkb;have cad:W2.drew.cell? ⟨gb,F+a,none⟩=some (.int .i64 va):=ca;have cbd:W2.drew.cell? ⟨gb,F+b,none⟩=some (.int .i64 vb):=cb2;have fad:W2.drew.frozen? ⟨gb,F+a,none⟩=false:=fa
 go_wp2_with fail
 go_region_law (first|(go_simp;go_at_call 129;refine(Hcut.out _).mono ?_;rintro e' w3 ⟨rfl,rfl⟩))
 all_goals
  go_wp2_with fail
  go_ret2;exact HQ.out _ rfl
theorem aD0{R:Nat→Prop}(cb gb:Nat)(ents:Int)(ks:List (List Ins))(draws:List Int)(s:KS)(a:Nat)(xb:Int)(ha:a<4)(hxb:1≤xb∧xb≤1000000000)(hdl:draws.length≤1000)(hdk:∀ d∈draws,0≤d∧d≤1000000000)(et en ek:Int)(E:Nat)(w:World)(h:RefC R w cb gb ents ks draws s)(he:1≤ents∧ents≤8)(hE:(E:Int)<ents) :
  Calls Tryz.prog 117 #[.pointer (some ⟨cb,0,none⟩),.agg #[.int .i64 4,.int .i64 (a:Int),.int .i64 xb,.int .i64 0],.agg #[.int .i64 et,.int .i64 en,.int .i64 ek,.int .i64 (E:Int)]] w fun e w'=>eF R cb gb ents ks draws w (doI draws E ⟨4,(a:Int),xb,0⟩ s) e w':=by
 obtain⟨cap,r1,r2,r3⟩:=h.c6;have H:=aB h;have hcl:=aC r1;have hgl:=aC (h.regs 0 (by omega))
 obtain⟨N,hN⟩:=Int.eq_ofNat_of_zero_le (show 0≤ents*4 by omega)
 have hNn:(ents*4).toNat=N:=by omega
 have hreg:=h.regs;have hrr:=h.rroom;rw[hNn]at r1 r2 hreg hrr;have hEN:E*4+4≤N:=by omega
 obtain⟨F,hF⟩:∃ F,F=E*4:=⟨_,rfl⟩;have w1:IntKind.i64.wrap ((E:Int)*4)=(F:Int):=by rw[IntKind.wrap_i64];omega
 have w2:IntKind.i64.wrap ((F:Int)+4)=(F:Int)+4:=by rw[IntKind.wrap_i64];omega
 have b1:(0:Int)≤(F:Int):=by omega
 have b2:(F:Int)≤(F:Int)+4:=by omega
 have b3:(F:Int)+4≤(cap:Int):=by omega
 have b4:¬cap=F:=by omega
 have b5:F+4≤cap:=by omega
 have b6:F≤F+4:=by omega
 have t4:((F:Int)+4).toNat=F+4:=by omega
 have t5:F+4-F=4:=by omega
 obtain⟨W1,hW1⟩:∃ W1,W1=(w.alloc (.cells #[.int .i64 4,.int .i64 (a:Int),.int .i64 xb,.int .i64 0] 59)).alloc (.cells #[.int .i64 et,.int .i64 en,.int .i64 ek,.int .i64 (E:Int)] 143):=⟨_,rfl⟩;have hb1:Below w.heap.size w W1:=by rw[hW1];exact((Below.refl _ _).alloc (Nat.le_refl _) _).alloc (by simp) _
 have hzW1:W1.heap.size=w.heap.size+2:=by rw[hW1];simp
 have z1:=aA hb1 r1 hcl;have x3:W1.cell? ⟨w.heap.size+1,3,none⟩=some (.int .i64 (E:Int)):=by rw[hW1];simp[go_sem]
 have y0:W1.cell? ⟨w.heap.size,0,none⟩=some (.int .i64 4):=by rw[hW1];simp[go_sem]
 have y1:W1.cell? ⟨w.heap.size,1,none⟩=some (.int .i64 (a:Int)):=by rw[hW1];simp[go_sem]
 have y2:W1.cell? ⟨w.heap.size,2,none⟩=some (.int .i64 xb):=by rw[hW1];simp[go_sem]
 have y3:W1.cell? ⟨w.heap.size,3,none⟩=some (.int .i64 0):=by rw[hW1];simp[go_sem]
 have hreg1:∀ i,i<4→W1.cell? ⟨gb,F+i,none⟩=some (.int .i64 (s.regs (E*4+i))):=fun i hi=>by rw[hF];exact aA hb1 (hreg (E*4+i) (by omega)) hgl
 have hfro1:∀ i,i<4→W1.frozen? ⟨gb,F+i,none⟩=false:=fun i hi=>by rw[hF];exact(hb1.frozen (p:=⟨gb,E*4+i,none⟩) hgl).trans (hrr (E*4+i) (by omega)).2
 have Hreg1:=aB hreg1;have Hfro1:=aB hfro1;have HB1:=aB hb1;have HF:=aB hF;have H1:=aB (H.out.only (Only.new (S:=fun _=>False) hb1) (by simp) (by simp) (by simp))
 have HNn:=aB hNn;have b7:(0:Int)≤(a:Int):=by omega
 have b8:(a:Int)<4:=by omega
 clear h hb1 hF hreg hrr hreg1 hfro1 hN hNn
 go_enter Tryz.func117,Tryz.ntmps117
 go_wp2_with fail
 rw[←hW1];clear hW1
 go_quiet (fail)
 obtain⟨W2,hW2⟩:∃ W2,W2=W1.drewN nq:=⟨_,rfl⟩;rw[←hW2];have hb2:Below W1.heap.size W1 W2:=by rw[hW2];exact below_drewN (Below.refl _ _) _
 have hz2:=hb2.size
 replace y0:=aA hb2 y0 (by omega)
 replace y1:=aA hb2 y1 (by omega)
 replace y2:=aA hb2 y2 (by omega)
 replace y3:=aA hb2 y3 (by omega)
 have Hreg2:Hid (∀ i,i<4→W2.cell? ⟨gb,F+i,none⟩=some (.int .i64 (s.regs (E*4+i)))):=fun i hi=>aA hb2 (Hreg1.out i hi) (by omega)
 have Hfro2:Hid (∀ i,i<4→W2.frozen? ⟨gb,F+i,none⟩=false):=fun i hi=>(hb2.frozen (p:=⟨gb,F+i,none⟩) (by show gb<_;omega)).trans (Hfro1.out i hi)
 have H2:=aB (H1.out.only (Only.new (S:=fun _=>False) hb2) (by simp) (by simp) (by simp))
 have HB2:Hid (Below w.heap.size w W2):=HB1.out.trans (hb2.mono (by omega))
 clear hW2 hb2 x3 z1;obtain⟨dv,d1,d2⟩:=H2.out.draw;obtain⟨da,dc,rfl⟩:=d2.form;have c3:=H2.out.c3;have c3f:=(H2.out.room 3 (by omega)).2
 have fa:=Hfro2.out a ha;have ca:=Hreg2.out a ha
 by_cases hdry:s.taken<draws.length
 ·obtain⟨db,dof,hda,hRdb,hdc⟩:∃ b off,da=some ⟨b,off,none⟩∧R b∧W2.cell? ⟨b,off+s.taken,none⟩=some (.int .i64 draws[s.taken]):=by
   obtain⟨_,⟨e,h0⟩|⟨b,off,cap',e,hb,hrow⟩⟩:=d2
   ·rw[h0]at hdry;simp at hdry
   ·simp at e;exact⟨b,off,e.1,hb,hrow s.taken _ (by simp[ints,hdry])⟩
  subst hda;have hne1:db≠gb:=(H2.out.far db hRdb).2.2;have hne2:db≠cb:=(H2.out.far db hRdb).2.1;have hne3:cb≠gb:=H2.out.ne;have hdv:=hdk _ (List.getElem_mem hdry);obtain⟨D,hD⟩:∃ D,D=draws[s.taken]:=⟨_,rfl⟩;rw[←hD]at hdc hdv;have Hdo:Hid (doI draws E ⟨4,(a:Int),xb,0⟩ s=({s with taken:=s.taken+1,regs:=cD s.regs (E*4+a) (D % xb)},[],0)):=by
   show _=_;simp[doI,hdry,←hD]
  have dn:decide ((draws.length:Int)≤(s.taken:Int))=false:=by simp;omega
  have b9:(0:Int)≤(s.taken:Int):=by omega
  have b10:(s.taken:Int)<(draws.length:Int):=by omega
  have hx0:xb≠0:=by omega
  have wt:IntKind.i64.wrap ((s.taken:Int)+1)=((s.taken+1:Nat):Int):=by rw[IntKind.wrap_i64];omega
  have hmod:Int.tmod D xb=D % xb:=Int.tmod_eq_emod_of_nonneg (by omega)
  have wm:IntKind.i64.wrap (Int.tmod D xb)=D % xb:=by
   rw[hmod,IntKind.wrap_i64];have:=Int.emod_lt_of_pos D (show 0<xb by omega)
   have:=Int.emod_nonneg D hx0;omega
  have hyg:w.heap.size≠gb:=by omega
  have hyc:w.heap.size≠cb:=by omega
  have Hd1:=aB d1;clear hdk d2 hD
  go_wp2_with fail
  go_quiet (fail)
  obtain⟨W3,hW3⟩:∃ W3,W3=W2.drewN nq:=⟨_,rfl⟩;rw[←hW3];have hb3:Below W2.heap.size W2 W3:=by rw[hW3];exact below_drewN (Below.refl _ _) _
  have z1:=aA hb3 y1 (by omega)
  have z2:=aA hb3 y2 (by omega)
  have zc:=aA hb3 c3 (by omega)
  have zd:=aA hb3 d1 (by omega)
  have zv:=aA hb3 hdc (aC hdc);have H3:=aB (H2.out.only (Only.new (S:=fun _=>False) hb3) (by simp) (by simp) (by simp))
  have HO3:Hid (Only (fun b=>b=cb∨b=gb) w W3):=(Only.new HB2.out).trans (Only.new hb3);have ga:=aA hb3 ca (by omega)
  have gf:W3.frozen? ⟨gb,F+a,none⟩=false:=(hb3.frozen (p:=⟨gb,F+a,none⟩) (by show gb<_;omega)).trans fa
  have gc:W3.frozen? ⟨cb,3,none⟩=false:=(hb3.frozen (p:=⟨cb,3,none⟩) (by show cb<_;omega)).trans c3f
  have HFa:Hid (F+a<(ents*4).toNat):=by have:=HNn.out;have:=HF.out;show _<_;omega
  clear hW3 hb3 y0 y1 y2 y3 c3 d1 hdc ca fa c3f H2 HB2 Hreg2 Hfro2 Hd1
  go_wp2_with fail
  go_region_held3 (fun W'=>W'.cell? ⟨w.heap.size,1,none⟩=some (.int .i64 (a:Int))∧W'.cell? ⟨w.heap.size,2,none⟩=some (.int .i64 xb)∧W'.cell? ⟨cb,3,none⟩=some (.int .i64 (s.taken:Int))∧W'.cell? ⟨cb,2,none⟩=some (.slice (some ⟨db,dof,none⟩) draws.length dc)∧W'.cell? ⟨db,dof+s.taken,none⟩=some (.int .i64 D))
   (first|exact⟨z1,z2,zc,zd,zv⟩|exact⟨(World.cell?_setCell_other _ _ _ _ (by simp[hyg,Ne.symm hyg])).trans z1,(World.cell?_setCell_other _ _ _ _ (by simp[hyg,Ne.symm hyg])).trans z2,(World.cell?_setCell_other _ _ _ _ (by simp[hne3,Ne.symm hne3])).trans zc,(World.cell?_setCell_other _ _ _ _ (by simp[hne3,Ne.symm hne3])).trans zd,(World.cell?_setCell_other _ _ _ _ (by simp[hne1,Ne.symm hne1])).trans zv⟩)
   (fail)
  all_goals
   go_wp2_with fail
   go_ret2;rw[Hdo.out];have e1:=(H3.out.setReg HFa.out (D % xb)).setTaken (s.taken+1);rw[HF.out]at e1;have e2:Only (fun b=>b=cb∨b=gb) w ((W3.setCell ⟨gb,F+a,none⟩ (.int .i64 (D % xb))).setCell ⟨cb,3,none⟩ (.int .i64 ((s.taken:Int)+1))):=(HO3.out.setCell (p:=⟨gb,F+a,none⟩) (.inr rfl) _).setCell (p:=⟨cb,3,none⟩) (.inl rfl) _;refine gG hcl hgl (e2.trans (Only.new (Below.refl _ _).drew)) ?_;rw[HF.out];exact e1.only (Only.new (S:=fun _=>False) (Below.refl _ _).drew) (by simp) (by simp) (by simp)
 ·have dn:decide ((draws.length:Int)≤(s.taken:Int))=true:=by simp;omega
  have Hdo:Hid (∃ s',doI draws E ⟨4,(a:Int),xb,0⟩ s=(s',[],5)):=by
   have:draws[s.taken]?=none:=List.getElem?_eq_none (by omega)
   exact⟨_,by simp[doI,this];rfl⟩
  obtain⟨s',hs'⟩:=Hdo.out;have Hs:=aB hs';clear Hdo hs'
  go_wp2_with fail
  go_quiet (fail)
  go_wp2_with fail
  go_ret2;rw[Hs.out];exact kA (by decide) ((Only.new HB2.out).trans (Only.new (below_drewN (Below.refl _ _) _)))
theorem aD1{R:Nat→Prop}(cb gb:Nat)(ents:Int)(ks:List (List Ins))(draws:List Int)(s:KS)(xa xb:Int)(c:Nat)(hc:c<4)(hok:KOk ents ks.length draws s)(et en ek:Int)(E:Nat)(w:World)(h:RefC R w cb gb ents ks draws s)(he:1≤ents∧ents≤8)(hE:(E:Int)<ents) :
  Calls Tryz.prog 117 #[.pointer (some ⟨cb,0,none⟩),.agg #[.int .i64 6,.int .i64 xa,.int .i64 xb,.int .i64 (c:Int)],.agg #[.int .i64 et,.int .i64 en,.int .i64 ek,.int .i64 (E:Int)]] w fun e w'=>eF R cb gb ents ks draws w (doI draws E ⟨6,xa,xb,(c:Int)⟩ s) e w':=by
 obtain⟨cap,r1,r2,r3⟩:=h.c6;have H:=aB h;have hcl:=aC r1;have hgl:=aC (h.regs 0 (by omega))
 obtain⟨N,hN⟩:=Int.eq_ofNat_of_zero_le (show 0≤ents*4 by omega)
 have hNn:(ents*4).toNat=N:=by omega
 have hreg:=h.regs;have hrr:=h.rroom;rw[hNn]at r1 r2 hreg hrr;have hEN:E*4+4≤N:=by omega
 obtain⟨F,hF⟩:∃ F,F=E*4:=⟨_,rfl⟩;have w1:IntKind.i64.wrap ((E:Int)*4)=(F:Int):=by rw[IntKind.wrap_i64];omega
 have w2:IntKind.i64.wrap ((F:Int)+4)=(F:Int)+4:=by rw[IntKind.wrap_i64];omega
 have b1:(0:Int)≤(F:Int):=by omega
 have b2:(F:Int)≤(F:Int)+4:=by omega
 have b3:(F:Int)+4≤(cap:Int):=by omega
 have b4:¬cap=F:=by omega
 have b5:F+4≤cap:=by omega
 have b6:F≤F+4:=by omega
 have t4:((F:Int)+4).toNat=F+4:=by omega
 have t5:F+4-F=4:=by omega
 obtain⟨W1,hW1⟩:∃ W1,W1=(w.alloc (.cells #[.int .i64 6,.int .i64 xa,.int .i64 xb,.int .i64 (c:Int)] 59)).alloc (.cells #[.int .i64 et,.int .i64 en,.int .i64 ek,.int .i64 (E:Int)] 143):=⟨_,rfl⟩;have hb1:Below w.heap.size w W1:=by rw[hW1];exact((Below.refl _ _).alloc (Nat.le_refl _) _).alloc (by simp) _
 have hzW1:W1.heap.size=w.heap.size+2:=by rw[hW1];simp
 have z1:=aA hb1 r1 hcl;have x3:W1.cell? ⟨w.heap.size+1,3,none⟩=some (.int .i64 (E:Int)):=by rw[hW1];simp[go_sem]
 have y0:W1.cell? ⟨w.heap.size,0,none⟩=some (.int .i64 6):=by rw[hW1];simp[go_sem]
 have y1:W1.cell? ⟨w.heap.size,1,none⟩=some (.int .i64 xa):=by rw[hW1];simp[go_sem]
 have y2:W1.cell? ⟨w.heap.size,2,none⟩=some (.int .i64 xb):=by rw[hW1];simp[go_sem]
 have y3:W1.cell? ⟨w.heap.size,3,none⟩=some (.int .i64 (c:Int)):=by rw[hW1];simp[go_sem]
 have hreg1:∀ i,i<4→W1.cell? ⟨gb,F+i,none⟩=some (.int .i64 (s.regs (E*4+i))):=fun i hi=>by rw[hF];exact aA hb1 (hreg (E*4+i) (by omega)) hgl
 have hfro1:∀ i,i<4→W1.frozen? ⟨gb,F+i,none⟩=false:=fun i hi=>by rw[hF];exact(hb1.frozen (p:=⟨gb,E*4+i,none⟩) hgl).trans (hrr (E*4+i) (by omega)).2
 have Hreg1:=aB hreg1;have Hfro1:=aB hfro1;have HB1:=aB hb1;have HF:=aB hF;have H1:=aB (H.out.only (Only.new (S:=fun _=>False) hb1) (by simp) (by simp) (by simp))
 have HNn:=aB hNn;have b7:(0:Int)≤(c:Int):=by omega
 have b8:(c:Int)<4:=by omega
 clear h hb1 hF hreg hrr hreg1 hfro1 hN hNn
 go_enter Tryz.func117,Tryz.ntmps117
 go_wp2_with fail
 rw[←hW1];clear hW1
 go_quiet (fail)
 obtain⟨W2,hW2⟩:∃ W2,W2=W1.drewN nq:=⟨_,rfl⟩;rw[←hW2];have hb2:Below W1.heap.size W1 W2:=by rw[hW2];exact below_drewN (Below.refl _ _) _
 have hz2:=hb2.size
 replace y0:=aA hb2 y0 (by omega)
 replace y1:=aA hb2 y1 (by omega)
 replace y2:=aA hb2 y2 (by omega)
 replace y3:=aA hb2 y3 (by omega)
 have Hreg2:Hid (∀ i,i<4→W2.cell? ⟨gb,F+i,none⟩=some (.int .i64 (s.regs (E*4+i)))):=fun i hi=>aA hb2 (Hreg1.out i hi) (by omega)
 have Hfro2:Hid (∀ i,i<4→W2.frozen? ⟨gb,F+i,none⟩=false):=fun i hi=>(hb2.frozen (p:=⟨gb,F+i,none⟩) (by show gb<_;omega)).trans (Hfro1.out i hi)
 have H2:=aB (H1.out.only (Only.new (S:=fun _=>False) hb2) (by simp) (by simp) (by simp))
 have HB2:Hid (Below w.heap.size w W2):=HB1.out.trans (hb2.mono (by omega))
 clear hW2 hb2 x3 z1;have HRoom:=aB (sU cb ents ks draws s.taken s.clock s.next (cY ents s) s.q W2 (H2.out.ref ⟨by omega,he.2⟩))
 have hnx:=hok.next
 have hck:=hok.clock;have hrc:=hok.regs (E*4+c)
 by_cases hroom:s.q.length<16∧s.next<1000000000
 ·have hrm:(decide (s.q.length<16)&&decide (s.next<1000000000))=true:=by simp[hroom]
  rw[hrm]at HRoom;clear hrm;have c4:=H2.out.c4;have cc:=Hreg2.out c hc;have f3:=Hfro2.out 3 (by omega)
  have HRk:=aB (H2.out.ref ⟨by omega,he.2⟩)
  obtain⟨rc,hrcv⟩:∃ rc,rc=s.regs (E*4+c):=⟨_,rfl⟩;rw[←hrcv]at cc hrc;obtain⟨t,ht⟩:∃ t,t=s.clock+max rc 0:=⟨_,rfl⟩;have wt:IntKind.i64.wrap (s.clock+if 0<rc then rc else 0)=t:=by rw[IntKind.wrap_i64,ht];split<;>omega
  by_cases hlate:1000000000000<t
  ·have Hdo:Hid (∃ s',doI draws E ⟨6,xa,xb,(c:Int)⟩ s=(s',[],4)):=by
    refine⟨{s with regs:=cD s.regs (E*4+3) 0},?_⟩;simp only[doI,Int.toNat_natCast,←hrcv,←ht];rw[if_neg (by decide),if_neg (by decide),if_neg (by decide),if_neg (by decide),if_pos trivial,if_neg (by simpa using hroom),if_pos hlate]
   obtain⟨s',hs'⟩:=Hdo.out;have Hs:=aB hs';clear Hdo hs';have Hhr:=aB hroom;clear hroom hrcv ht
   go_wp2_with (go_at_call 87;refine HRoom.out.mono ?_;rintro e' w5 ⟨rfl,rfl⟩)
   go_region_held3 (fun W'=>W'.cell? ⟨cb,4,none⟩=some (.int .i64 s.clock)∧W'.cell? ⟨w.heap.size,3,none⟩=some (.int .i64 (c:Int))∧W'.cell? ⟨gb,F+c,none⟩=some (.int .i64 rc))
    (first|exact⟨c4,y3,cc⟩)
    (fail)
   all_goals
    go_wp2_with fail
    all_goals
     go_ret2;rw[Hs.out];exact kA (by decide) ((Only.new HB2.out).trans (Only.new (Below.refl _ _).drew))
  ·have Hdo:Hid (doI draws E ⟨6,xa,xb,(c:Int)⟩ s=({s with q:=dR ⟨t,s.next,xa,xb⟩ s.q,next:=s.next+1,regs:=cD s.regs (E*4+3) s.next},[],0)):=by
    show _=_;simp only[doI,Int.toNat_natCast,←hrcv,←ht];rw[if_neg (by decide),if_neg (by decide),if_neg (by decide),if_neg (by decide),if_pos trivial,if_neg (by simpa using hroom),if_neg hlate]
   have Hhr:=aB hroom;have hbd:Below W2.heap.size W2 W2.drew:=(Below.refl _ _).drew;have HPl:=aB (vS cb ents ks draws s.taken s.clock s.next (cY ents s) s.q t xa xb W2.drew (HRk.out.only (Only.new (S:=fun _=>False) hbd) (by simp) (by simp)) (by
    rintro b (hb|rfl)
    ·exact⟨(H2.out.far b hb).1,(H2.out.far b hb).2.1⟩
    ·exact⟨by show b<W2.heap.size;omega,Ne.symm H2.out.ne⟩) hroom.1 (by omega) hroom.2)
   have HD:=aB (H2.out.only (Only.new (S:=fun _=>False) hbd) (by simp) (by simp) (by simp))
   have HN:=aB H2.out.ne;have Hz:Hid (cb<W2.drew.heap.size∧gb<W2.drew.heap.size):=⟨by show cb<W2.heap.size;omega,by show gb<W2.heap.size;omega⟩
   clear hroom hrcv ht hbd;have y1d:W2.drew.cell? ⟨w.heap.size,1,none⟩=some (.int .i64 xa):=y1;have y2d:W2.drew.cell? ⟨w.heap.size,2,none⟩=some (.int .i64 xb):=y2
   go_wp2_with (go_at_call 87;refine HRoom.out.mono ?_;rintro e' w5 ⟨rfl,rfl⟩)
   go_region_held3 (fun W'=>W'.cell? ⟨cb,4,none⟩=some (.int .i64 s.clock)∧W'.cell? ⟨w.heap.size,3,none⟩=some (.int .i64 (c:Int))∧W'.cell? ⟨gb,F+c,none⟩=some (.int .i64 rc))
    (first|exact⟨c4,y3,cc⟩)
    (fail)
   all_goals
    go_wp2_with fail
    all_goals
     refine HPl.out.mono ?_;rintro e' w6 ⟨rfl,ho6,_,hp6⟩;have H6:=aB (HD.out.planned Hz.out ho6 hp6);have r3c:=H6.out.regs (F+3) (by have:=HNn.out;have:=HF.out;omega)
     have r3f:=(H6.out.rroom (F+3) (by have:=HNn.out;have:=HF.out;omega)).2
     have HO6:Hid (Only (fun b=>b=cb∨b=gb) w w6):=((Only.new HB2.out).trans (Only.new (Below.refl _ _).drew)).trans (ho6.mono (fun b _ hb=>.inl hb));have HZ6:Hid (w.heap.size≤w5.heap.size):=by show _≤_;omega
     have HS6:=aB (H6.out.setReg (i:=F+3) (by have:=HNn.out;have:=HF.out;omega) s.next)
     clear hp6 ho6
     go_wp2_with fail
     go_ret2;rw[Hdo.out];have e1:=HS6.out;rw[HF.out]at e1;refine⟨_,_,rfl,HO6.out.setCell (p:=⟨gb,F+3,none⟩) (.inr rfl) _,fun _=>⟨?_,by simp,.inl ⟨rfl,rfl⟩⟩⟩
     rw[HF.out];obtain⟨kv,k1,k2⟩:=e1.kinds;obtain⟨dv,d1,d2⟩:=e1.draw;obtain⟨qv,q1,q2⟩:=e1.que;have hm:∀ b,(R b∨(w5.drew.heap.size≤b∧b<w6.heap.size))→R b∨(w.heap.size≤b∧b<(w6.setCell ⟨gb,E*4+3,none⟩ (.int .i64 s.next)).heap.size):=by
      rintro b (hb|hb)
      ·exact .inl hb
      ·refine .inr ⟨?_,by simpa [World.setCell]using hb.2⟩
       have:w5.drew.heap.size=w5.heap.size:=rfl;have:=HZ6.out;omega
     refine⟨e1.c0,⟨kv,k1,k2.mono hm⟩,⟨dv,d1,d2.mono hm⟩,e1.c3,e1.c4,e1.c5,e1.c6,e1.regs,e1.rroom,⟨qv,q1,q2.mono hm⟩,e1.room,e1.ne,?_⟩;rintro b (hb|hb)
     ·exact e1.far b (.inl hb)
     ·exact⟨hb.2,by omega,by omega⟩
 ·have hrm:(decide (s.q.length<16)&&decide (s.next<1000000000))=false:=by
   rw[Bool.and_eq_false_iff];simp;omega
  rw[hrm]at HRoom;have Hdo:Hid (∃ s',doI draws E ⟨6,xa,xb,(c:Int)⟩ s=(s',[],3)):=by
   refine⟨{s with regs:=cD s.regs (E*4+3) 0},?_⟩;simp only[doI];rw[if_neg (by decide),if_neg (by decide),if_neg (by decide),if_neg (by decide),if_pos trivial,if_pos hroom]
  obtain⟨s',hs'⟩:=Hdo.out;have Hs:=aB hs';clear Hdo hs' hrm hroom
  go_wp2_with (go_at_call 87;refine HRoom.out.mono ?_;rintro e' w5 ⟨rfl,rfl⟩)
  go_ret2;rw[Hs.out];exact kA (by decide) (Only.new HB2.out)
theorem aEo{w:World}{base n:Nat}{v:Value}{q:List Ev}(h:w.ownsRow base 143 4 v n (aO (q.map aR)))(hn:n=q.length):EvsIn (fun b=>base≤b∧b<w.heap.size) w v q:=by
 subst hn;rcases bK h with⟨e,h0,_⟩|⟨g,cap,e,hg,hlt,hrow⟩
 ·exact .inl ⟨e,List.eq_nil_of_length_eq_zero h0⟩
 ·obtain⟨_,⟨e',_⟩|⟨g',cap',cur,e',_,_,hle,hm,_⟩⟩:=h
  ·rw[e]at e';simp at e'
  ·rw[e]at e';simp only[Value.slice.injEq,Option.some.injEq,Addr.mk.injEq,and_true,true_and]at e';obtain⟨rfl,rfl⟩:=e';exact .inr ⟨g,0,cap,e,hle,by simpa [maxLen]using hm,⟨hg,hlt⟩,hrow.code⟩
theorem aD2{n:Int}{q:List Ev}{k:Nat}(h:k<q.length):bY n (q.take (k+1))=bY n (q.take k)++(if q[k].number=n then []else [q[k]]):=by
 rw[List.take_succ_eq_append_getElem h];unfold bY;rw[List.filter_append];congr 1
 by_cases hn:q[k].number=n<;>simp[hn]
theorem xI(n:Int)(q:List Ev)(k:Nat):(bY n (q.take k)).length≤k:=by
 have h1:(bY n (q.take k)).length≤(q.take k).length:=List.length_filter_le _ _;have h2:(q.take k).length≤k:=by simp;omega
 omega
theorem aD3{R:Nat→Prop}(cb gb:Nat)(ents:Int)(ks:List (List Ins))(draws:List Int)(s:KS)(a:Nat)(ha:a<4)(hq16:s.q.length≤16)(et en ek:Int)(E:Nat)(w:World)(h:RefC R w cb gb ents ks draws s)(he:1≤ents∧ents≤8)(hE:(E:Int)<ents) :
  Calls Tryz.prog 117 #[.pointer (some ⟨cb,0,none⟩),.agg #[.int .i64 7,.int .i64 (a:Int),.int .i64 0,.int .i64 0],.agg #[.int .i64 et,.int .i64 en,.int .i64 ek,.int .i64 (E:Int)]] w fun e w'=>eF R cb gb ents ks draws w ({s with q:=bY (s.regs (E*4+a)) s.q},[],0) e w':=by
 obtain⟨cap,r1,r2,r3⟩:=h.c6;have H:=aB h;have hcl:=aC r1;have hgl:=aC (h.regs 0 (by omega))
 obtain⟨N,hN⟩:=Int.eq_ofNat_of_zero_le (show 0≤ents*4 by omega)
 have hNn:(ents*4).toNat=N:=by omega
 have hreg:=h.regs;have hrr:=h.rroom;rw[hNn]at r1 r2 hreg hrr;have hEN:E*4+4≤N:=by omega
 obtain⟨F,hF⟩:∃ F,F=E*4:=⟨_,rfl⟩;have w1:IntKind.i64.wrap ((E:Int)*4)=(F:Int):=by rw[IntKind.wrap_i64];omega
 have w2:IntKind.i64.wrap ((F:Int)+4)=(F:Int)+4:=by rw[IntKind.wrap_i64];omega
 have b1:(0:Int)≤(F:Int):=by omega
 have b2:(F:Int)≤(F:Int)+4:=by omega
 have b3:(F:Int)+4≤(cap:Int):=by omega
 have b4:¬cap=F:=by omega
 have b5:F+4≤cap:=by omega
 have b6:F≤F+4:=by omega
 have t4:((F:Int)+4).toNat=F+4:=by omega
 have t5:F+4-F=4:=by omega
 obtain⟨W1,hW1⟩:∃ W1,W1=(w.alloc (.cells #[.int .i64 7,.int .i64 (a:Int),.int .i64 0,.int .i64 0] 59)).alloc (.cells #[.int .i64 et,.int .i64 en,.int .i64 ek,.int .i64 (E:Int)] 143):=⟨_,rfl⟩;have hb1:Below w.heap.size w W1:=by rw[hW1];exact((Below.refl _ _).alloc (Nat.le_refl _) _).alloc (by simp) _
 have hzW1:W1.heap.size=w.heap.size+2:=by rw[hW1];simp
 have z1:=aA hb1 r1 hcl;have x3:W1.cell? ⟨w.heap.size+1,3,none⟩=some (.int .i64 (E:Int)):=by rw[hW1];simp[go_sem]
 have y0:W1.cell? ⟨w.heap.size,0,none⟩=some (.int .i64 7):=by rw[hW1];simp[go_sem]
 have y1:W1.cell? ⟨w.heap.size,1,none⟩=some (.int .i64 (a:Int)):=by rw[hW1];simp[go_sem]
 have y2:W1.cell? ⟨w.heap.size,2,none⟩=some (.int .i64 0):=by rw[hW1];simp[go_sem]
 have y3:W1.cell? ⟨w.heap.size,3,none⟩=some (.int .i64 0):=by rw[hW1];simp[go_sem]
 have hreg1:∀ i,i<4→W1.cell? ⟨gb,F+i,none⟩=some (.int .i64 (s.regs (E*4+i))):=fun i hi=>by rw[hF];exact aA hb1 (hreg (E*4+i) (by omega)) hgl
 have hfro1:∀ i,i<4→W1.frozen? ⟨gb,F+i,none⟩=false:=fun i hi=>by rw[hF];exact(hb1.frozen (p:=⟨gb,E*4+i,none⟩) hgl).trans (hrr (E*4+i) (by omega)).2
 have Hreg1:=aB hreg1;have Hfro1:=aB hfro1;have HB1:=aB hb1;have HF:=aB hF;have H1:=aB (H.out.only (Only.new (S:=fun _=>False) hb1) (by simp) (by simp) (by simp))
 have HNn:=aB hNn;have b7:(0:Int)≤(a:Int):=by omega
 have b8:(a:Int)<4:=by omega
 clear h hb1 hF hreg hrr hreg1 hfro1 hN hNn
 go_enter Tryz.func117,Tryz.ntmps117
 go_wp2_with fail
 rw[←hW1];clear hW1
 go_quiet (fail)
 obtain⟨W2,hW2⟩:∃ W2,W2=W1.drewN nq:=⟨_,rfl⟩;rw[←hW2];have hb2:Below W1.heap.size W1 W2:=by rw[hW2];exact below_drewN (Below.refl _ _) _
 have hz2:=hb2.size
 replace y0:=aA hb2 y0 (by omega)
 replace y1:=aA hb2 y1 (by omega)
 replace y2:=aA hb2 y2 (by omega)
 replace y3:=aA hb2 y3 (by omega)
 have Hreg2:Hid (∀ i,i<4→W2.cell? ⟨gb,F+i,none⟩=some (.int .i64 (s.regs (E*4+i)))):=fun i hi=>aA hb2 (Hreg1.out i hi) (by omega)
 have Hfro2:Hid (∀ i,i<4→W2.frozen? ⟨gb,F+i,none⟩=false):=fun i hi=>(hb2.frozen (p:=⟨gb,F+i,none⟩) (by show gb<_;omega)).trans (Hfro1.out i hi)
 have H2:=aB (H1.out.only (Only.new (S:=fun _=>False) hb2) (by simp) (by simp) (by simp))
 have HB2:Hid (Below w.heap.size w W2):=HB1.out.trans (hb2.mono (by omega))
 clear hW2 hb2 x3 z1;have ca:=Hreg2.out a ha;obtain⟨qv,q1,q2⟩:=H2.out.que;obtain⟨qa,qc,rfl⟩:=q2.form;obtain⟨va,hva⟩:∃ va,va=s.regs (E*4+a):=⟨_,rfl⟩;rw[←hva]at ca;have Hva:=aB hva;clear hva;have c7f:=(H2.out.room 7 (by omega)).2
 have HW2l:Hid (w.heap.size≤W2.heap.size):=by show _≤_;omega
 have hcW:cb<W2.heap.size:=by omega
 have hgW:gb<W2.heap.size:=by omega
 have hyW:w.heap.size<W2.heap.size:=by omega
 have Hev:Hid (∀ k (h:k<s.q.length),∃ qb qo,qa=some ⟨qb,qo,none⟩∧qb<W2.heap.size∧W2.cell? ⟨qb,qo+k*4,none⟩=some (.int .i64 s.q[k].time)∧W2.cell? ⟨qb,qo+k*4+1,none⟩=some (.int .i64 s.q[k].number)∧W2.cell? ⟨qb,qo+k*4+2,none⟩=some (.int .i64 s.q[k].kind)∧W2.cell? ⟨qb,qo+k*4+3,none⟩=some (.int .i64 s.q[k].entity)):=by
  intro k hk;obtain⟨e,h0⟩|⟨b,off,cap',e,_,_,hb,hc⟩:=q2
  ·rw[h0]at hk;simp at hk
  ·simp at e;obtain⟨x0,x1,x2,x3⟩:=hc k (aR s.q[k]) (by simp[hk])
   exact⟨b,off,e.1,(H2.out.far b hb).1,x0,x1,x2,x3⟩
 clear q2
 go_wp2_with fail
 go_loopw [11,12] (fun lv i wr=>∃ k:Nat,k≤s.q.length∧i=.int .i64 k∧Below W2.heap.size W2 wr∧Hid (wr.ownsRow W2.heap.size 143 4 lv (bY va (s.q.take k)).length (aO ((bY va (s.q.take k)).map aR)))) (fun _ i _=>s.q.length-(intOf i).toNat)
 case atStart=>exact⟨0,Nat.zero_le _,rfl,Below.refl _ _,World.ownsRow_nil _ _ _ _⟩
 case round=>
  obtain⟨k,hk,rfl,hbel,hown⟩:=hrel;obtain⟨la,lc,rfl⟩:=bR hown.out;have z7:=aA hbel q1 hcW
  by_cases hlt:k<s.q.length
  ·obtain⟨qb,qo,rfl,hqb,e0,e1,e2,e3⟩:=Hev.out k hlt;have d1:decide ((k:Int)<(s.q.length:Int))=true:=by simp;omega
   have k1:(0:Int)≤(k:Int):=by omega
   have k2:(k:Int)<(s.q.length:Int):=by omega
   have v0:=aA hbel e0 hqb;have v1:=aA hbel e1 hqb;have v2:=aA hbel e2 hqb;have v3:=aA hbel e3 hqb;have vy:=aA hbel y1 hyW;have va':=aA hbel ca hgW;obtain⟨ev,hev⟩:∃ ev,ev=s.q[k]:=⟨_,rfl⟩;rw[←hev]at v0 v1 v2 v3;have Htk:Hid (bY va (s.q.take (k+1))=bY va (s.q.take k)++(if ev.number=va then []else [ev])):=by rw[hev];exact aD2 hlt
   have hle:=xI va s.q k;clear hev e0 e1 e2 e3
   go_wp2_with fail
   go_quiet (fail)
   obtain⟨W3,hW3⟩:∃ W3,W3=wr.drewN nq:=⟨_,rfl⟩;rw[←hW3];have hb3:Below wr.heap.size wr W3:=by rw[hW3];exact below_drewN (Below.refl _ _) _
   have hz3:=hbel.size;have hz3':=hb3.size
   replace z7:=aA hb3 z7 (by omega)
   replace v0:=aA hb3 v0 (by omega)
   replace v1:=aA hb3 v1 (by omega)
   replace v2:=aA hb3 v2 (by omega)
   replace v3:=aA hb3 v3 (by omega)
   have hown3:Hid (W3.ownsRow W2.heap.size 143 4 (.slice la (bY va (s.q.take k)).length lc) (bY va (s.q.take k)).length (aO ((bY va (s.q.take k)).map aR))):=bT hown.out (Only.new (S:=fun _=>False) hb3) (by simp)
   have hbel3:Below W2.heap.size W2 W3:=hbel.trans (hb3.mono hz3);clear hW3 hb3 hown hbel
   by_cases hn:ev.number=va
   ·have dn:decide (ev.number≠va)=false:=by simpa using hn
    rw[if_pos hn,List.append_nil]at Htk
    go_wp2_with fail
    go_roundw
    case rel=>
     refine⟨k+1,by omega,by go_num,hbel3,?_⟩
     rw[Htk.out];exact hown3
    case measure=>simp[intOf];omega
   ·have dn:decide (ev.number≠va)=true:=by simpa using hn
    rw[if_neg hn]at Htk
    go_wp2_with (at_builtin;refine aD rfl (.tmp 160) (.tmp 168) 115 rfl W2.heap.size 143 (.agg #[.int .i64 0,.int .i64 0,.int .i64 0,.int .i64 0]) 4 32 Tryz.underlying115 Tryz.info129 rfl (by omega) _ (bY va (s.q.take k)).length (aO ((bY va (s.q.take k)).map aR)) rfl (hown3.out.alloc _) _ 1 (aO [aR ev]) rfl (.inr (.inl ⟨W3.heap.size,0,_,rfl,?_⟩)) rfl (dH _) (by omega) (by omega) (by simp;omega) ?_)
    ·intro j u hu;have hj:j<4:=by have:=(List.getElem?_eq_some_iff.1 hu).1;simpa [aO,cP]using this
     have:j=0∨j=1∨j=2∨j=3:=by omega
     rcases this with rfl|rfl|rfl|rfl<;>simp[aO,cP,aR]at hu<;>subst hu<;>simp[go_sem]
    intro v4 w4 hown4 hgr4 hwh4;have hb4:Below W2.heap.size W3 w4:=((Below.refl _ _).alloc (by omega) _).grown hgr4.out (by simp;omega) (fun b hb=>(hown3.out.lt b hb).1)
    have HB4:Hid (Below W2.heap.size W2 w4):=hbel3.trans hb4;have HO4:Hid (w4.ownsRow W2.heap.size 143 4 v4 (bY va (s.q.take (k+1))).length (aO ((bY va (s.q.take (k+1))).map aR))):=by
     have:=hown4.out;show w4.ownsRow _ _ _ _ _ _;rw[Htk.out];have e1:(bY va (s.q.take k)++[ev]).length=(bY va (s.q.take k)).length+1:=by simp
     have e2:aO ((bY va (s.q.take k)++[ev]).map aR)=aO ((bY va (s.q.take k)).map aR)++aO [aR ev]:=by simp[aO]
     rw[e1,e2];exact this
    obtain⟨sa4,sc4,rfl⟩:=bR hown4.out;clear hown4 hgr4 hwh4 hb4
    go_wp2_with fail
    go_roundw
    case rel=>exact⟨k+1,by omega,by go_num,HB4.out,HO4⟩
    case measure=>simp[intOf];omega
  ·have d1:decide ((k:Int)<(s.q.length:Int))=false:=by simp;omega
   have hkq:k=s.q.length:=by omega
   subst hkq;have hf7:wr.frozen? ⟨cb,7,none⟩=false:=(hbel.frozen (p:=⟨cb,7,none⟩) (by show cb<_;omega)).trans c7f
   have HB:Hid (Below W2.heap.size W2 wr):=hbel;have Hze:Hid (W2.heap.size≤wr.heap.size):=hbel.size;have Hown:=hown;clear hown hbel
   go_wp2_with fail
   go_ret2;rw[List.take_length];have Hown:=Hown.out;rw[List.take_length]at Hown;have e1:RefC (fun b=>R b∨(w.heap.size≤b∧b<wr.heap.size)) wr cb gb ents ks draws s:=(H2.out.only (Only.new (S:=fun _=>False) HB.out) (by simp) (by simp) (by simp)).wide hcl hgl
   have hev:EvsIn (fun b=>R b∨(w.heap.size≤b∧b<wr.heap.size)) wr (.slice la (bY va s.q).length lc) (bY va s.q):=by
    have hl:=HW2l.out;exact(aEo Hown rfl).mono (fun b hb=>.inr ⟨by omega,hb.2⟩)
   have e2:=e1.setQueue _ _ hev;have hsz:(wr.setCell ⟨cb,7,none⟩ (.slice la (bY va s.q).length lc)).heap.size=wr.heap.size:=by simp[World.setCell]
   refine⟨_,_,rfl,((Only.new HB2.out).trans (Only.new HB.out)).setCell (p:=⟨cb,7,none⟩) (.inl rfl) _,fun _=>⟨?_,by simp,.inl ⟨rfl,rfl⟩⟩⟩
   rw[hsz,←Hva.out];exact e2
end Go.Proofs.YtndlmgocldckfaaGreat
