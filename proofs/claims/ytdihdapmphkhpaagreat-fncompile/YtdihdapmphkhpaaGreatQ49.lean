import Derived.Test.YtdihdapmphkhpaaGreatQ17
import Derived.Test.YtdihdapmphkhpaaGreatQ28
import Derived.Test.YtdihdapmphkhpaaGreatQ34
import Derived.Test.YtdihdapmphkhpaaGreatQ46
import Derived.Test.YtdihdapmphkhpaaGreatQ48
set_option linter.all false
set_option maxRecDepth 200000
set_option maxHeartbeats 16000000
namespace Go.Proofs.YtdihdapmphkhpaaGreat.fnCompile
open Go.ChangeShapes Go.WideShapes Go.ChangeAt Go.RowKit Go.Deep
theorem early(a b:Option Addr)(n cap mm mcap:Nat)(V:Bool)(w:World)(hn:n<=1048576)(hm:mm<=1048576)
 (HD:Hid (Calls Tryz.prog 4 #[.slice a n cap] w fun e w'=>∃a2 n2 c2 ar nr b2 cl cb2,e=.returned (.tuple #[.agg #[.slice a2 n2 c2],.agg #[.int .u32 ar,.int .u32 nr,.slice b2 cl cb2]])∧(V=false∨cl=5)∧Below w.heap.size w w'∧Hid (∀w1,Below w'.heap.size w' w1->Calls Tryz.prog 5 #[.agg #[.slice a2 n2 c2]] w1 fun e w'=>e=.returned (.bool V)∧Below w1.heap.size w1 w'))):
 Calls Tryz.prog 3 #[.slice a n cap,.slice b mm mcap] w fun e w'=>e=.returned (.bool true)∧Below w.heap.size w w':=by
 have hlt:¬(1048576:Int)<n:=by omega
 have hlm:¬(1048576:Int)<mm:=by omega
 go_enter Tryz.func3,Tryz.ntmps3
 go_wp2_with fail
 refine(HD.out).mono ?_
 rintro e w1⟨a1,n1,c1,ar,nr,b1,cl,cb1,rfl,hx,B1,HV⟩
 have Hx:Hid _:=hx
 clear hx
 have b2:Below w1.heap.size w1 ((w1.alloc (.cells #[.slice a1 n1 c1] 25)).alloc (.cells #[.int .u32 ar,.int .u32 nr,.slice b1 cl cb1] 29)):=((af _ _).alloc (ae _) _).alloc (by simp) _
 have p2:((w1.alloc (.cells #[.slice a1 n1 c1] 25)).alloc (.cells #[.int .u32 ar,.int .u32 nr,.slice b1 cl cb1] 29)).cell? ⟨w1.heap.size,0,none⟩=some (.slice a1 n1 c1):=by
  obtain⟨c3,_⟩:=eB (g:=w1.heap.size) (o:=0) (fu (ah (w1.alloc (.cells #[.slice a1 n1 c1] 25)) none) (.cells #[.int .u32 ar,.int .u32 nr,.slice b1 cl cb1] 29)) (by simp) (by simp)
  exact c3.trans (gw w1 _ 25 _ rfl).1
 have x2:fY ((w1.alloc (.cells #[.slice a1 n1 c1] 25)).alloc (.cells #[.int .u32 ar,.int .u32 nr,.slice b1 cl cb1] 29)) (w1.heap.size+1) (.int .u32 ar) (.int .u32 nr) (.slice b1 cl cb1):=by
  have:=fY.new (w1.alloc (.cells #[.slice a1 n1 c1] 25)) 29 (.int .u32 ar) (.int .u32 nr) (.slice b1 cl cb1)
  simpa using this
 have B2:=B1.trans (b2.mono B1.size)
 go_upto_region 4 with fail
 generalize((w1.alloc (.cells #[.slice a1 n1 c1] 25)).alloc (.cells #[.int .u32 ar,.int .u32 nr,.slice b1 cl cb1] 29))=W2 at*
 have HV2:Hid (Calls Tryz.prog 5 #[.agg #[.slice a1 n1 c1]] W2 fun e w'=>e=.returned (.bool V)∧Below W2.heap.size W2 w'):=HV.out W2 b2
 clear HV HD b2
 go_wp2_with fail
 refine HV2.out.mono ?_
 rintro _ w3⟨rfl,hb3⟩
 have x3:=(x2.ey hb3).c2
 have B3:=B2.trans (hb3.mono B2.size)
 clear x2 p2 B2 B1 hb3
 cases V with
 |false=>
  go_wp2
  go_ret
  exact⟨rfl,B3⟩
 |true=>
  obtain rfl:cl=5:=by rcases Hx.out with h|h;cases h;exact h
  go_wp2
  go_ret
  exact⟨rfl,B3⟩
theorem vh{p:List E}(hv:eW p=true)(ho:okP p):∀e∈p,e.rules.length<=200∧∀r∈e.rules,r.length=6:=by
 intro e he;obtain⟨i,hi,rfl⟩:=bH he;have e1:p.getD i E.zero=p[i]:=by rw[aa,ag hi];rfl
 have h1:=gZ (gY hv hi).1;rw[e1]at h1;exact⟨h1.2.1,fun r hr=>(C1 ((ho _ he).2.2 r hr) (h1.2.2 r hr)).1⟩
theorem Cn{D out:List E}(hv:eW D=true)(ho:okP D)(hm:rS D out)(hn:D.length<=1000)(a:Option Addr)(c:Nat)(w:World)(hs:eS 3 PE w a D):
 Calls Tryz.prog 10 #[.agg #[.slice a D.length c]] w fun e w'=>∃a3 c3,e=.returned (.agg #[.slice a3 D.length c3])∧(eS 3 PEC w' a3 out∧D.length<=c3)∧Below w.heap.size w w':=by
 refine(tn D a c w hs ho hv hn).mono ?_;rintro e w'⟨v,out',rv,lo,hi,gb,h1,h2,h3,h4⟩;obtain rfl:=h1.uniq hm;have fx:=h1.facts hv ho;obtain⟨a3,c3,e3,h5,h6⟩:=En h3 (by rw[fx.len];exact hn) (vh fx.valid fx.ok);rw[e3,fx.len]at h2;rw[fx.len]at h6;exact⟨a3,c3,h2,⟨h5,h6⟩,h4⟩
theorem BQ{D out:List E}(hv:eW D=true)(ho:okP D)(hm:rS D out)(hn:D.length<=1000)(a:Option Addr)(c:Nat)(w:World)(hs:eS 3 PE w a D):
 Calls Tryz.prog 8 #[.agg #[.slice a D.length c]] w fun e w'=>∃a3 c3,e=.returned (.agg #[.slice a3 D.length c3])∧(eS 3 PEC w' a3 out∧D.length<=c3)∧Below w.heap.size w w':=by
 refine(zX D a c w hs ho hv hn).mono ?_;rintro e w'⟨a3,c3,out',h1,h2,_,h4,h5,h6⟩;obtain rfl:=h1.uniq hm;have fx:=h1.facts hv ho;rw[fx.len]at h2 h6;exact⟨a3,c3,h2,⟨h5,h6⟩,h4⟩
theorem G9{p:List E}{w:World}{e:Ending}{w':World}(h:iW p w e w'):∃a3 c3,e=.returned (.tuple #[.slice a3 (ky p).length c3,.int .i64 (vS p)])∧Src w' a3 (ky p)∧Below w.heap.size w w':=by
 obtain⟨v,h1,h2,h3⟩:=h;obtain⟨a3,c3,rfl,hs⟩:=j4 h2;exact⟨a3,c3,h1,hs,h3⟩
theorem Fg(a b:Option Addr)(cap bcap:Nat)(l more:List Int)(w:World)(hs:ng w a l)(hl:eV l)(hcap:l.length<=cap)(hn:l.length<=1048576)(hs2:ng w b more)(hl2:eV more)(hn2:more.length<=1048576):
 Calls Tryz.prog 3 #[.slice a l.length cap,.slice b more.length bcap] w fun e w'=>e=.returned (.bool true)∧Below w.heap.size w w':=by
 have hbL:=nS hl 600;obtain⟨F,hF⟩:=kdF_ex (l.take 600) hbL;have HD:=fun w1(hb:Below w.heap.size w w1)=>vl l hl hn F hF a cap w1 (hs.below hb) hcap
 obtain⟨hokD,hbdD⟩:=C7 hbL hF 0;generalize mi (l.take 600) F 0=D at*;generalize uW (l.take 600) F 0=bd at*;generalize BH (l.take 600) F=X at*;have hbig:∀P:List E,BdP P->P.length<=16777216∧(∀e∈P,e.rules.length<=16777216)∧∀e∈P,∀r∈e.rules,r.length<=16777216:=fun P h=>⟨by have:=h.1;omega,fun e he=>by have:=(h.2 e he).1;omega,fun e he r hr=>by have:=(h.2 e he).2 r hr;omega⟩
 obtain⟨hb1,hb2,hb3⟩:=hbig D hbdD;have HVal:∀(P:List E)(a2:Option Addr)(c2:Nat)(w1:World),okP P->BdP P->eS 3 PE w1 a2 P->Calls Tryz.prog 5 #[.agg #[.slice a2 P.length c2]] w1 fun e w'=>e=.returned (.bool (eW P))∧Below w1.heap.size w1 w':=fun P a2 c2 w1 h1 h2 h3=>by
  obtain⟨k1,k2,k3⟩:=hbig P h2;exact km P a2 c2 w1 h3 h1 k1 k2 k3
 by_cases hgood:bd=false∧eW D=true∧X.args.length=6
 ·obtain⟨rfl,hv,h6⟩:=hgood;have HD1:∀w1,Below w.heap.size w w1->Calls Tryz.prog 4 #[.slice a l.length cap] w1 fun e w'=>∃a2 c2 b2 cb2,e=.returned (.tuple #[.agg #[.slice a2 D.length c2],.agg #[.int .u32 X.et,.int .u32 X.nr,.slice b2 6 cb2]])∧eS 3 PE w' a2 D∧(kV w' b2 X.args∧X.ok)∧Below w1.heap.size w1 w':=fun w1 hb=>(HD w1 hb).mono (by
   rintro e w'⟨vp,ar,nr,q,n,cq,args,rfl,h1,h2,h3,h4,h5,⟨h,_⟩|⟨_,hX,hp⟩⟩
   ·cases h
   obtain⟨a2,c2,rfl⟩:=hp.form
   subst hX
   have h1':n=6:=h1.symm.trans h6
   subst h1'
   exact⟨a2,c2,_,cq,rfl,hp.src,⟨h3,h4⟩,h5⟩)
  obtain⟨_,w',_,⟨a2,c2,b2,cb2,_,hsD,⟨_,hXok⟩,_⟩,_⟩:=HD1 w (af _ _) [];have hn3:D.length<=1000:=by have:=hbdD.1;omega
  obtain⟨_,_,_,⟨_,out,_,_,_,_,hm,_⟩,_⟩:=tn D a2 0 w' hsD hokD hv hn3 [];have fx:=hm.facts hv hokD;have hlens:=vh fx.valid fx.ok;have hbO:BdP out:=⟨by rw[fx.len];exact hbdD.1,fun e he=>⟨by have:=(hlens e he).1;omega,fun r hr=>by have:=(hlens e he).2 r hr;omega⟩⟩;obtain⟨ho1,ho2,ho3⟩:=hbig out hbO;have hA:A64 (argN X.args):=fun i=>by
   unfold argN;by_cases hi:i<X.args.length
   ·rw[aa,ag hi];have:=hXok.2.2.2.2 _ (aI hi);unfold gA at this;show(X.args[i]).toNat<_;omega
   rw[aa,bw (by omega)];decide
  have hargl:X.args.length<=16777216:=by omega
  have hAl:=fx.Bz X hA;have hpl:=E6 out;refine walk0 a b l.length cap more.length bcap D.length (ky out).length D out X (kP D X) (vS out) (fun w1 a3=>Src w1 a3 (ky out)) (fun ip=>mw X ip) (fun ip=>runT (ky out) (mw X ip)) w hn hn2 hn3 hpl ?_ ?_ ?_ ?_ ?_ ?_ ?_ ?_ ?_ ?_ ?_ ?_ ?_ ?_
  ·exact fun w1 hb=>(HD1 w1 hb).mono (by
   rintro e w'⟨a2,c2,b2,cb2,h1,h3,⟨h4,_⟩,h5⟩
   exact⟨a2,c2,b2,cb2,h1,h3,h4,h5⟩)
  ·intro a2 c2 w1 h;have:=HVal D a2 c2 w1 hokD hbdD h;rw[hv]at this;exact this
  ·intro a2 c2 b2 cb2 w1 h hu;have:=uy D X a2 b2 c2 cb2 w1 h hu hokD hXok.2.2.2.2 hargl hb1 hb2 hb3;rw[h6]at this;exact this
  ·exact fun a2 c2 w1 h=>BQ hv hokD hm hn3 a2 c2 w1 h
  ·exact fun a2 c2 w1 h=>Cn hv hokD hm hn3 a2 c2 w1 h
  ·intro a2 c2 w1 h;have:=(zS out a2 c2 w1 h.1 (by rw[fx.len];exact h.2) fx.ok ho1 ho2 ho3).mono (fun e w' h=>G9 h);rw[fx.len]at this;exact this
  ·intro a2 c2 w1 h;have:=(zN out a2 c2 w1 h.1 (by rw[fx.len];exact h.2) fx.ok ho1 ho2 ho3).mono (fun e w' h=>G9 h);rw[fx.len]at this;exact this
  ·exact fun wa wb a2 hb h=>h.below hb
  ·exact fun h=>by rw[IY h];rfl
  ·intro h a2 c2 w1 hs;have fo:=xX fx.valid fx.ok h;have:=np a2 c2 (ky out) w1 hs fo.ok (by omega);rw[fo.valid]at this;exact this
  ·exact fun w1 hb=>BA b bcap 0 more w1 (hs2.below hb) hl2 hn2 (by omega)
  ·intro ip b2 cb2 w1 hip hu;have:=uO X b2 cb2 ip w1 hu hXok h6 hip;rw[h6]at this;refine this.mono ?_;rintro e w'⟨v,rfl,hv1,hB⟩;obtain⟨a7,c7,rfl,hb7,hc7⟩:=Ei hv1;rw[rI h6]at hc7⊢;exact⟨a7,c7,rfl,hb7,hc7,hB⟩
  ·intro h ip a2 c2 a3 c3 w1 hip hP hR hc3;have fo:=xX fx.valid fx.ok h;obtain⟨r1,r2,r3,r4⟩:=fo.run X ip hXok h6;have:=yW a2 a3 c2 c3 (ky out) (mw X ip) w1 hP fo.ok fo.few (by rw[fo.valid]) (rI h6 ip) (by omega) hR (Cf X ip) (by rw[rI h6];exact hc3);rw[rI h6,r1,r4,hAl]at this;exact this
  intro h ip hip;have fo:=xX fx.valid fx.ok h;obtain⟨r1,r2,r3,r4⟩:=fo.run X ip hXok h6;exact⟨r2,r3⟩
 refine early a b l.length cap more.length bcap (eW D&& !bd) w hn hn2 ?_;refine(HD w (af _ _)).mono ?_;rintro e w'⟨vp,ar,nr,q,n,cq,args,rfl,h1,h2,h3,h4,h5,⟨hb,P,a2,c2,rfl,h6,h7,h8,h9,h10⟩|⟨hb,hX,hp⟩⟩
 ·refine⟨a2,P.length,c2,ar,nr,_,n,cq,rfl,.inl (by rw[hb];simp),h5,fun w1 hb1=> ?_⟩;have:=HVal P a2 c2 w1 h7 h9 ((yR h10).below PE.stays hb1);rw[h8]at this;rw[hb,Bool.not_true,cd];exact this
 obtain⟨a2,c2,rfl⟩:=hp.form;refine⟨a2,D.length,c2,ar,nr,_,n,cq,rfl,?_,h5,fun w1 hb1=> ?_⟩
 ·subst hX;rw[hb,Bool.not_false,cF]
  cases hv:eW D with
  |false=>exact .inl rfl
  |true=>
   refine .inr ?_;rcases h2 with h2|h2
   ·exact h2
   exact absurd ⟨hb,hv,h1.trans h2⟩ hgood
 have:=HVal D a2 c2 w1 hokD hbdD (hp.src.below PE.stays hb1);rw[hb,Bool.not_false,cF];exact this
theorem walk(a b:Option Addr)(cap bcap:Nat)(l more:List Int)(w:World)(hs:ng w a l)(hl:eV l)(hcap:l.length<=cap)(hm:l.length<=maxLen)(hs2:ng w b more)(hl2:eV more)(hm2:more.length<=maxLen):
 Calls Tryz.prog 3 #[.slice a l.length cap,.slice b more.length bcap] w fun e w'=>e=.returned (.bool true)∧Below w.heap.size w w':=by
 unfold maxLen at hm hm2;by_cases hn:l.length<=1048576
 ·by_cases hn2:more.length<=1048576
  ·exact Fg a b cap bcap l more w hs hl hcap hn hs2 hl2 hn2
  clear hs hl hcap hs2 hl2;generalize l.length=n at*;generalize more.length=m at*;have hn':¬(1048576:Int)<(n:Int):=by omega
  have hm':(1048576:Int)<(m:Int):=by omega
  go_enter Tryz.func3,Tryz.ntmps3;go_wp2;go_ret;exact⟨rfl,af _ _⟩
 clear hs hl hcap hs2 hl2;generalize l.length=n at*;generalize more.length=m at*;have hn':(1048576:Int)<(n:Int):=by omega
 go_enter Tryz.func3,Tryz.ntmps3;go_wp2;go_ret;exact⟨rfl,af _ _⟩
theorem lifted(os:Os)(started:os.Started)(H:Type)(enc:TypeId×Value->H):
 ReturnsInHanded {} Tryz.checked os 3 .any (Rows.fnCompileSpec.pre6 enc Tryz.prog Tryz.f3 Rows.fnCompileRow.domain false) (Rows.fnCompileSpec.post enc Tryz.prog Tryz.f3 false true false false):=by
 refine returnsInHanded_of_change (C:=Tryz.checked) own started (by kernel_rfl) Tryz.func3
  (ChangeSpec.witness6 (enc:=enc) (C:=Tryz.checked) false ⟨#[],#[.slice none 0 0,.slice none 0 0],[]⟩ 8 (by kernel_rfl) (by kernel_rfl) (by kernel_rfl) (by kernel_rfl)) ?_
 intro W base args ds gs before hval0 hW hcnd _;have hval:∀(j:Nat)t v,Tryz.f3.params[j]? =some t->args[j]? =some v->Value.okWide Tryz.prog W .any base t v:=hval0;have hW':=hW;obtain⟨p,q,hA0,hV,rfl,hfz,hnd⟩:=hW;have hA:DataW.TrodAll enc Tryz.prog W 0 (fun _=>true) true Tryz.f3.params.toList args.toList ds p:=hA0;rw[Tryz.params3]at hA hval;obtain⟨v0,vs0,d0,ds0,p0,q0,hargs,rfl,rfl,h0,r0⟩:=trodAll_cons hA;obtain⟨v1,vs1,d1,ds1,p1,q1,rfl,rfl,rfl,h1,r1⟩:=trodAll_cons r0;obtain⟨rfl,rfl,rfl⟩:=trodAll_nil r1;obtain rfl:args= #[v0,v1]:=by cases args;simp_all
 obtain⟨rfl,rfl⟩:=trodVars_none hV;obtain⟨a0,len0,cap0,rfl⟩:=okWide_slice Tryz.underlying22 (hval 0 22 v0 rfl rfl);obtain⟨a1,len1,cap1,rfl⟩:=okWide_slice Tryz.underlying22 (hval 1 22 v1 rfl rfl);have k0:=h0;have k1:=h1;have lt0:∀x∈p0,x.block<W.heap.size:=by obtain⟨m,hm⟩:=k0;exact DataW.trod_lt m _ _ _ hm
 have lt1:∀x∈p1,x.block<W.heap.size:=by obtain⟨m,hm⟩:=k1;exact DataW.trod_lt m _ _ _ hm
 obtain⟨pp,hpl,hml,hcp,hsrc,hok⟩:=open_bytes h0;subst hpl;obtain⟨rr,hrl,hml1,_,hsrc1,hok1⟩:=open_bytes h1;subst hrl;clear hA0 hval0;refine(walk a0 a1 cap0 cap1 pp rr W hsrc hok hcp hml hsrc1 hok1 hml1).mono fun e W'⟨he,bel⟩=> ?_
 subst he;exact⟨_,rfl,_,_,_,[],_,[],hW',trodAll_mk1 (shut_bool Tryz.underlying4 _),(trodAll_cons_mk (Below.trod laidOut (by kernel_rfl) (of_decide_eq_true (by kernel_rfl)) k0 bel lt0) (trodAll_cons_mk (Below.trod laidOut (by kernel_rfl) (of_decide_eq_true (by kernel_rfl)) k1 bel lt1) trodAll_mk0)),rfl,bel.frame _,fun h=>by cases h⟩
theorem proved:Rows.FnCompileSaid:=
 OpenClaim.holds_of_wide 3 Tryz.f3 rfl rfl rfl rfl rfl rfl rfl ⟨rfl,rfl,rfl,rfl,rfl⟩ rfl rfl rfl rfl rfl (by kernel_rfl) Tryz.func3 (by kernel_rfl)
  (of_decide_eq_true (by kernel_rfl)) (by unfold Func.isWrapper;first|(rw[if_pos (by decide+kernel)];kernel_rfl)|(rw[if_neg (by decide+kernel)];exact⟨rfl,rfl⟩))
  (fun os started H enc _=>lifted os started H enc)
#print axioms proved
end Go.Proofs.YtdihdapmphkhpaaGreat.fnCompile
