import Derived.Test.YtddemlfepjkgoaaGreatQ09
import Derived.Test.YtddemlfepjkgoaaGreatQ42
import Derived.Test.YtddemlfepjkgoaaGreatQ52
import Derived.Test.YtddemlfepjkgoaaGreatQ54
set_option linter.all false
set_option maxRecDepth 200000
set_option maxHeartbeats 16000000
namespace Go.Proofs.YtddemlfepjkgoaaGreat.fnLearn
open Go.ChangeShapes Go.WideShapes Go.ChangeAt Go.RowKit Go.Deep
theorem vbounds{p:List E}(hv:validP p=true)(ho:okP p):p.length<=1000∧∀e∈p,e.rules.length<=200∧∀r∈e.rules,r.length=6:=by
 refine⟨valid_len hv,fun e he=> ?_⟩;obtain⟨i,hi,rfl⟩:=List.getElem_of_mem he;have e1:p.getD i E.zero=p[i]:=by rw[List.getD_eq_getElem?_getD,List.getElem?_eq_getElem hi];rfl
 have h1:=validE_parts (validP_parts hv hi).1;rw[e1]at h1;exact⟨h1.2.1,fun r hr=>(vr_of ((ho _ he).2.2 r hr) (h1.2.2 r hr)).1⟩
theorem alw(p:List E)(c:C)(a a':Option Addr)(cap cap':Nat)(w:World)(hs:LSrc 3 PE w a p)(hv:validP p=true)(ho:okP p)(hu:USrc w a' c.args)(hc:okLa c.args):
 Calls Tryz.prog 9 #[.agg #[.slice a p.length cap],.agg #[.int .u32 c.arch,.int .u32 c.nr,.slice a' 6 cap']] w fun e w'=>e=.returned (.bool (allowsP p c))∧Below w.heap.size w w':=by
 obtain⟨h1,h2⟩:=vbounds hv ho;have:=implAllows_any p c a a' cap cap' w hs hu ho hc.2 (by rw[hc.1];omega) (by omega) (fun e he=>by have:=(h2 e he).1;omega) (fun e he r hr=>by have:=(h2 e he).2 r hr;omega);rw[hc.1]at this;exact this
theorem walk_big(n cap nm cm:Nat)(a am:Option Addr)(w:World)(hn:n<=9223372036854775807)(hnm:nm<=9223372036854775807)(h:1048576<n∨1048576<nm):
 Calls Tryz.prog 3 #[.slice a n cap,.slice am nm cm] w fun e w'=>e=.returned (.bool true)∧Below w.heap.size w w':=by
 have B:=Below.refl w.heap.size w;by_cases h1:1048576<n
 ·have h1':(1048576:Int)<(n:Int):=by omega
  go_enter Tryz.func3,Tryz.ntmps3;go_wp2;go_ret;exact⟨rfl,B⟩
 have h1':¬(1048576:Int)<(n:Int):=by omega
 have h2':(1048576:Int)<(nm:Int):=by omega
 go_enter Tryz.func3,Tryz.ntmps3;go_wp2;go_ret;exact⟨rfl,B⟩
theorem walk_fit(l lm:List Int)(a am:Option Addr)(cap cm:Nat)(w:World)(hs:BSrc w a l)(hl:isBytes l)(hcap:l.length<=cap)(hn:l.length<=1048576)(hsm:BSrc w am lm)(hlm:isBytes lm)(hnm:lm.length<=1048576):
 Calls Tryz.prog 3 #[.slice a l.length cap,.slice am lm.length cm] w fun e w'=>e=.returned (.bool true)∧Below w.heap.size w w':=by
 obtain⟨cs,ex,sp,f,hok,hcl,HD⟩:=drawLearn_det l hl hn;have ho:okC cs:=fun c hc=>⟨(hok c hc).1,by have:=(hok c hc).2;omega⟩
 have HD1:∀w1,Below w.heap.size w w1->Calls Tryz.prog 4 #[.slice a l.length cap] w1 fun e w'=>∃a' c',e=.returned (.tuple #[.slice a' cs.length c',.agg #[.int .i64 ex,.int .i64 sp,.int .i64 f]])∧(CSrc w' a' cs∧cs.length<=c')∧Below w1.heap.size w1 w':=fun w1 hb=>(HD a cap w1 (hs.below hb) hcap).mono fun e w'⟨a',c',h1,h2,h3,h4⟩=>⟨a',c',h1,⟨h2,h3⟩,h4⟩
 have HS:∀a' c' w1,(CSrc w1 a' cs∧cs.length<=c')->Calls Tryz.prog 5 #[.slice a' cs.length c',.agg #[.int .i64 ex,.int .i64 sp,.int .i64 f]] w1 fun e w'=>∃a3 n3 c3,e=.returned (.tuple #[.agg #[.slice a3 n3 c3],.int .i64 (if(knobsB ex sp f&&callsB cs)=true then 0 else 1)])∧Below w1.heap.size w1 w':=fun a' c' w1⟨h1,h2⟩=>by
  refine(specLearn_any ex sp f cs a' c' w1 h1 h2 ho (fun c hc=>⟨(ho c hc).2,(hok c hc).1.2.2.2.2⟩) (by omega)).mono ?_;rintro e w'(⟨g1,av,cv,out,rfl,_,_,_,g4⟩|⟨g1,rfl,g2⟩)
  ·exact⟨av,_,cv,by rw[if_pos g1],g4⟩
  exact⟨none,0,0,by rw[if_neg (by rw[g1];decide)],g2⟩
 have HCk:∀(u u':World)(a':Option Addr)(c':Nat),(CSrc u a' cs∧cs.length<=c')->Below u.heap.size u u'->(CSrc u' a' cs∧cs.length<=c'):=fun u u' a' c' h hb=>⟨h.1.below hb,h.2⟩
 by_cases hg:¬(knobsB ex sp f&&callsB cs)=true
 ·exact walkA l.length cap lm.length cm cs.length a am ex sp f _ w (fun w a c=>CSrc w a cs∧cs.length<=c) hn hnm hcl (.inl (if_neg hg)) HD1 HS HCk
 have hg:=Classical.not_not.1 hg;by_cases h60:60<cs.length
 ·exact walkA l.length cap lm.length cm cs.length a am ex sp f _ w (fun w a c=>CSrc w a cs∧cs.length<=c) hn hnm hcl (.inr ⟨if_pos hg,h60⟩) HD1 HS HCk
 rw[if_pos hg]at HS;obtain⟨_,w',_,⟨a2,c2,_,⟨hsD,_⟩,_⟩,_⟩:=HD1 w (Below.refl _ _) [];obtain⟨_,_,_,⟨_,_,out,z,hrel,_⟩,_⟩:=implLearn_any ex sp f cs a2 c2 w' hsD ho (by omega) [];have hg2:=hg;rw[Bool.and_eq_true]at hg2;have g1:=of_decide_eq_true hg2.1;have g2:=of_decide_eq_true hg2.2;have hla:∀c∈cs,okLa c.args:=fun c hc=>⟨g2.2 c hc,(hok c hc).1.2.2.2.2⟩
 have hz:z=0∧IsLearn cs ex sp f out:=by
  rcases hrel with⟨_,h1,h2⟩|⟨h1,_⟩
  ·exact⟨h1,h2⟩
  rw[hg]at h1;cases h1
 obtain⟨rfl,hlrn⟩:=hz;have F:=hlrn.facts (fun c hc=>by
  have:=(hok c hc).1
  exact⟨⟨this.1,this.2.1⟩,⟨this.2.2.1,this.2.2.2.1⟩,hla c hc⟩) g2.1 g1.2.1 g1.2.2.2.1 g1.2.2.2.2
 obtain⟨hb1,hb2⟩:=vbounds F.valid F.ok;have hbig:out.length<=16777216∧(∀e∈out,e.rules.length<=16777216)∧∀e∈out,∀r∈e.rules,r.length<=16777216:=⟨by omega,fun e he=>by have:=(hb2 e he).1;omega,fun e he r hr=>by have:=(hb2 e he).2 r hr;omega⟩;have hA64:∀c:C,okLa c.args->A64 (argN c.args):=fun c hc i=>(hc.lt i).1
 refine walkB l.length cap lm.length cm cs.length out.length a am ex sp f w (fun w a c=>CSrc w a cs∧cs.length<=c) (fun w a=>LSrc 3 PE w a out) (fun w a n=>∃mm:List E,n=mm.length∧IsMin out mm∧LSrc 3 PE w a mm) (fun c w g=>USrc w (some ⟨g,0,none⟩) c.args∧okLa c.args) (fun i=>(cs.getD i C.zero).arch) (fun i=>(cs.getD i C.zero).nr) (allowsP out) (InSp cs) hn hnm (by omega) HD1 HS ?_ ?_ ?_ ?_ ?_ ?_ ?_ ?_ ?_ HCk (fun u u' a' h hb=>h.below PE.stays hb) (fun u u' a' n'⟨mm,h1,h2,h3⟩hb=>⟨mm,h1,h2,h3.below PE.stays hb⟩) (fun c u u' g h hb=>⟨h.1.below hb,h.2⟩)
 ·intro a' c' w1 h;refine(implLearn_any ex sp f cs a' c' w1 h.1 ho (by omega)).mono ?_;rintro e w2⟨a7,c7,out',z',h1,rfl,h3,h4⟩;obtain⟨rfl,rfl⟩:=hrel.uniq h1;exact⟨a7,c7,rfl,(h3.read hb1 hb2).1,h4⟩
 ·intro a7 c7 w1 h;have:=implValidP_any out a7 c7 w1 h F.ok hbig.1 hbig.2.1 hbig.2.2;rw[F.valid]at this;exact this
 ·intro a7 c7 w1 h;refine(implMin_any out a7 c7 w1 h F.ok hbig.1 hbig.2.1 hbig.2.2).mono ?_;rintro e w2⟨a8,c8,mm,h1,rfl,h3,h4⟩;have hm:IsMin out mm:=by
   rcases h1 with⟨_,h⟩|⟨h,_⟩
   ·exact h
   rw[F.valid]at h;cases h
  have G:=hm.facts F.valid F.ok;obtain⟨q1,q2⟩:=vbounds G.valid G.ok;exact⟨a8,_,c8,rfl,⟨mm,rfl,hm,(h3.read q1 q2).1⟩,h4⟩
 ·rintro wr a' c' a7 c7 a8 n8 c8⟨hC,_⟩hP⟨mm,rfl,hm,hM⟩i hi;have G:=hm.facts F.valid F.ok;have hmem:=callL_mem hi;have h6:=hla _ hmem;obtain⟨b,o,h1,_,h2,h3,a5,c5,h4,h5⟩:=hC.at i hi;rw[h6.1]at h4;refine⟨b,o,a5,c5,h1,h2,h3,h4,fun W hb=> ?_,fun W hb=> ?_⟩
  ·have:=alw out (cs.getD i C.zero) a7 a5 c7 c5 W (hP.below PE.stays hb) F.valid F.ok (h5.below hb) h6;rw[F.yes _ hmem]at this;exact this
  have:=alw mm (cs.getD i C.zero) a8 a5 c8 c5 W (hM.below PE.stays hb) G.valid G.ok (h5.below hb) h6;rw[G.allows _ (hA64 _ h6),F.yes _ hmem]at this;exact this
 ·intro wr a' c' h hb;refine(other_any cs a' c' lm am cm wr h.1 (fun c hc=>(hok c hc).1) hla g2.1 (hsm.below hb) hlm hnm).mono ?_;rintro e w2⟨c,g,rfl,h1,_,_,h2,h3⟩;exact⟨c,g,rfl,⟨h1,h2⟩,h3⟩
 ·intro c wr a' c' g h hq;exact inSpan_any cs a' c' c _ _ wr h.1 hla g2.1 hq.1 hq.2
 ·intro c wr a7 c7 g hP hq;exact alw out c a7 _ c7 _ wr hP F.valid F.ok hq.1 hq.2
 ·rintro c wr a8 n8 c8 g⟨mm,rfl,hm,hM⟩hq;have G:=hm.facts F.valid F.ok;have:=alw mm c a8 (some ⟨g,0,none⟩) c8 6 wr hM G.valid G.ok hq.1 hq.2;rw[G.allows _ (hA64 _ hq.2)]at this;exact this
 intro c wr g hq h;exact F.span c hq.2 h
theorem walk(l lm:List Int)(a am:Option Addr)(cap cm:Nat)(w:World)(hs:BSrc w a l)(hl:isBytes l)(hcap:l.length<=cap)(hn:l.length<=maxLen)(hsm:BSrc w am lm)(hlm:isBytes lm)(hnm:lm.length<=maxLen):
 Calls Tryz.prog 3 #[.slice a l.length cap,.slice am lm.length cm] w fun e w'=>e=.returned (.bool true)∧Below w.heap.size w w':=by
 unfold maxLen at hn hnm;by_cases h:1048576<l.length∨1048576<lm.length
 ·exact walk_big _ _ _ _ _ _ w (by omega) (by omega) h
 exact walk_fit l lm a am cap cm w hs hl hcap (by omega) hsm hlm (by omega)
theorem lifted(os:Os)(started:os.Started)(H:Type)(enc:TypeId×Value->H):
 ReturnsInHanded {} Tryz.checked os 3 .any (Rows.fnLearnSpec.pre6 enc Tryz.prog Tryz.f3 Rows.fnLearnRow.domain false) (Rows.fnLearnSpec.post enc Tryz.prog Tryz.f3 false true false false):=by
 refine returnsInHanded_of_change (C:=Tryz.checked) own started (by kernel_rfl) Tryz.func3
  (ChangeSpec.witness6 (enc:=enc) (C:=Tryz.checked) false ⟨#[],#[.slice none 0 0,.slice none 0 0],[]⟩ 8 (by kernel_rfl) (by kernel_rfl) (by kernel_rfl) (by kernel_rfl)) ?_
 intro W base args ds gs before hval0 hW hcnd _;have hval:∀(j:Nat)t v,Tryz.f3.params[j]? =some t->args[j]? =some v->Value.okWide Tryz.prog W .any base t v:=hval0;have hW':=hW;obtain⟨p,q,hA0,hV,rfl,hfz,hnd⟩:=hW;have hA:DataW.TrodAll enc Tryz.prog W 0 (fun _=>true) true Tryz.f3.params.toList args.toList ds p:=hA0;rw[Tryz.params3]at hA hval;obtain⟨v0,vs0,d0,ds0,p0,q0,hargs,rfl,rfl,h0,r0⟩:=trodAll_cons hA;obtain⟨v1,vs1,d1,ds1,p1,q1,hargs1,rfl,rfl,h1,r1⟩:=trodAll_cons r0;obtain⟨rfl,rfl,rfl⟩:=trodAll_nil r1;obtain rfl:args= #[v0,v1]:=by cases args;simp_all
 obtain⟨rfl,rfl⟩:=trodVars_none hV;have k0:=h0;have k1:=h1;have lt0:∀x∈p0,x.block<W.heap.size:=by obtain⟨m,hm⟩:=k0;exact DataW.trod_lt m _ _ _ hm
 have lt1:∀x∈p1,x.block<W.heap.size:=by obtain⟨m,hm⟩:=k1;exact DataW.trod_lt m _ _ _ hm
 obtain⟨a0,len0,cap0,rfl⟩:=okWide_slice Tryz.underlying22 (hval 0 22 v0 rfl rfl);obtain⟨a1,len1,cap1,rfl⟩:=okWide_slice Tryz.underlying22 (hval 1 22 v1 rfl rfl);obtain⟨pp,hpl,hml,hcp,hsrc,hok⟩:=open_bytes h0;obtain⟨pq,hpl1,hml1,hcp1,hsrc1,hok1⟩:=open_bytes h1;subst hpl;subst hpl1;clear hA0 hval0;refine(walk pp pq a0 a1 cap0 cap1 W hsrc hok hcp hml hsrc1 hok1 hml1).mono fun e W'⟨he,bel⟩=> ?_
 subst he;exact⟨_,rfl,_,_,_,[],_,[],hW',trodAll_mk1 (shut_bool Tryz.underlying4 _),(trodAll_cons_mk (Below.trod laidOut (by kernel_rfl) (of_decide_eq_true (by kernel_rfl)) k0 bel lt0) (trodAll_cons_mk (Below.trod laidOut (by kernel_rfl) (of_decide_eq_true (by kernel_rfl)) k1 bel lt1) trodAll_mk0)),rfl,bel.frame _,fun h=>by cases h⟩
theorem proved:Rows.FnLearnSaid:=
 OpenClaim.holds_of_wide 3 Tryz.f3 rfl rfl rfl rfl rfl rfl rfl ⟨rfl,rfl,rfl,rfl,rfl⟩ rfl rfl rfl rfl rfl (by kernel_rfl) Tryz.func3 (by kernel_rfl)
  (of_decide_eq_true (by kernel_rfl)) (by unfold Func.isWrapper;first|(rw[if_pos (by decide+kernel)];kernel_rfl)|(rw[if_neg (by decide+kernel)];exact⟨rfl,rfl⟩))
  (fun os started H enc _=>lifted os started H enc)
#print axioms proved
end Go.Proofs.YtddemlfepjkgoaaGreat.fnLearn
