import Derived.Test.YtddemlfepjkgoaaGreatQ49
set_option linter.all false
set_option maxRecDepth 200000
set_option maxHeartbeats 16000000
namespace Go.Proofs.YtddemlfepjkgoaaGreat
structure SpC(vs:List Nat)(lo hi on ze:Nat)(first:Bool):Prop where
 none:first=true->vs=[]
 some:first=false->vs≠[]
 rng:first=false->∀x∈vs,lo<=x∧x<=hi
 one:∀k,on.testBit k=true->∀x∈vs,x.testBit k=true
 zer:∀k,ze.testBit k=true->∀x∈vs,x.testBit k=false
 l1:lo<18446744073709551616
 l2:hi<18446744073709551616
 l3:on<18446744073709551616
 l4:ze<18446744073709551616
theorem SpC.zero:SpC [] 0 0 18446744073709551615 18446744073709551615 true:=⟨fun _=>rfl,fun h=>by simp at h,fun h=>by simp at h,fun _ _ x hx=>by simp at hx,fun _ _ x hx=>by simp at hx,by omega,by omega,by omega,by omega⟩
theorem SpC.next{vs:List Nat}{lo hi on ze x lo' hi':Nat}{first:Bool}(h:SpC vs lo hi on ze first)(hx:x<18446744073709551616)(hlo:(first=true∨x<lo)∧lo'=x∨¬(first=true∨x<lo)∧lo'=lo)(hhi:(first=true∨hi<x)∧hi'=x∨¬(first=true∨hi<x)∧hi'=hi):
 SpC (vs++[x]) lo' hi' (on&&&x) (ze&&&inv x) false:=by
 refine⟨fun e=>(nomatch e),fun _ e=>(by simp at e),fun _ y hy=> ?_,fun k hk y hy=> ?_,fun k hk y hy=> ?_,?_,?_,?_,?_⟩
 ·rw[List.mem_append,List.mem_singleton]at hy
  cases first with
  |true=>
   have e:=h.none rfl;subst e;rcases hy with hy|rfl
   ·simp at hy
   simp at hlo hhi;omega
  |false=>
   simp at hlo hhi;rcases hy with hy|rfl
   ·have:=h.rng rfl y hy;omega
   omega
 ·rw[Nat.testBit_and,Bool.and_eq_true]at hk;rw[List.mem_append,List.mem_singleton]at hy;rcases hy with hy|rfl
  ·exact h.one k hk.1 y hy
  exact hk.2
 ·rw[Nat.testBit_and,Bool.and_eq_true,bit_inv hx]at hk;rw[List.mem_append,List.mem_singleton]at hy;rcases hy with hy|rfl
  ·exact h.zer k hk.1 y hy
  have:=hk.2;simp at this;exact this.2
 ·have:=h.l1;rcases hlo with⟨_,e⟩|⟨_,e⟩<;>omega
 ·have:=h.l2;rcases hhi with⟨_,e⟩|⟨_,e⟩<;>omega
 ·have h1:on&&&x<=x:=Nat.and_le_right;omega
 have h1:ze&&&inv x<=ze:=Nat.and_le_left;have:=h.l4;omega
theorem SpC.done{vs:List Nat}{lo hi on ze v:Nat}{first:Bool}(h:SpC vs lo hi on ze first)(hs:SpanN vs v)(h0:vs≠[]):first=false∧((lo<=v∧v<=hi)∨(v&&&on=on∧v&&&ze=0)):=by
 have hf:first=false:=by
  cases first with
  |true=>exact absurd (h.none rfl) h0
  |false=>rfl
 have hm:∀i,i<vs.length->vs.getD i 0∈vs:=fun i hi=>by rw[List.getD_eq_getElem?_getD,List.getElem?_eq_getElem hi];exact List.getElem_mem hi
 refine⟨hf,?_⟩;rcases hs with⟨i,j,hi,hj,h1,h2⟩|hs
 ·left;have:=h.rng hf _ (hm i hi);have:=h.rng hf _ (hm j hj);omega
 right;constructor
 ·apply Nat.eq_of_testBit_eq;intro k;rw[Nat.testBit_and]
  cases e:on.testBit k with
  |false=>simp
  |true=>rw[hs k true (fun i hi=>h.one k e _ (hm i hi))];rfl
 apply Nat.eq_of_testBit_eq;intro k;rw[Nat.testBit_and,Nat.zero_testBit]
 cases e:ze.testBit k with
 |false=>simp
 |true=>rw[hs k false (fun i hi=>h.zer k e _ (hm i hi))];rfl
end Go.Proofs.YtddemlfepjkgoaaGreat
namespace Go.Proofs.YtddemlfepjkgoaaGreat
open Go.RowKit Go.Deep
set_option linter.unusedSimpArgs false
def InSp(cs:List C)(c:C):Prop:=groupOf cs (idC c)≠[]∧∀i,i<6->SpanN (colN (groupOf cs (idC c)) i) (argN c.args i)
def InP(cs:List C)(c:C)(w:World)(e:Ending)(w':World):Prop:=∃b,e=.returned (.bool b)∧(InSp cs c->b=true)∧Below w.heap.size w w'
theorem take_C2{l:List C}{k:Nat}(h:k<l.length):l.take (k+1)=l.take k++[l.getD k C.zero]:=by
 rw[List.take_add_one,List.getElem?_eq_getElem h,List.getD_eq_getElem?_getD,List.getElem?_eq_getElem h];rfl
theorem col_next{cs:List C}{id:Id2}{j:Nat}(hj:j<cs.length)(i:Nat):colN (groupOf (cs.take (j+1)) id) i=colN (groupOf (cs.take j) id) i++(if idC (cs.getD j C.zero)=id then [argN (cs.getD j C.zero).args i]else []):=by
 rw[take_C2 hj,groupOf_snoc];split<;>simp[colN,argN]
theorem inSpan_any(cs:List C)(a:Option Addr)(cap:Nat)(c:C)(a':Option Addr)(cap':Nat)(w:World)(hs:CSrc w a cs)(hcs:∀c∈cs,okLa c.args)(hn:cs.length<=1000)(hu:USrc w a' c.args)(hc:okLa c.args):
 Calls Tryz.prog 11 #[.slice a cs.length cap,.agg #[.int .u32 c.arch,.int .u32 c.nr,.slice a' 6 cap']] w (InP cs c w):=by
 have HC:Hid (∀wr,Below w.heap.size w wr->∀j,j<cs.length->∃b o b' o' c',a=some ⟨b,o,none⟩∧wr.cell? ⟨b,o+j*3,none⟩=some (.int .u32 (cs.getD j C.zero).arch)∧wr.cell? ⟨b,o+j*3+1,none⟩=some (.int .u32 (cs.getD j C.zero).nr)∧wr.cell? ⟨b,o+j*3+2,none⟩=some (.slice (some ⟨b',o',none⟩) 6 c')∧∀q,q<6->wr.cell? ⟨b',o'+q,none⟩=some (.int .u64 ((argN (cs.getD j C.zero).args q:Nat):Int))):=fun wr hb j hj=>by
  obtain⟨b,o,b',o',c',h1,_,h2,h3,h4,_,h5⟩:=csrc_six (hs.below hb) hcs hj;refine⟨b,o,b',o',c',h1,h2,h3,h4,fun q hq=> ?_⟩;have:=(hcs _ (callL_mem hj)).lt q;rw[h5 q hq];unfold argN;rw[Int.toNat_of_nonneg this.2]
 have HV:Hid (∀wr,Below w.heap.size w wr->∃b o,a'=some ⟨b,o,none⟩∧∀q,q<6->wr.cell? ⟨b,o+q,none⟩=some (.int .u64 ((argN c.args q:Nat):Int))):=fun wr hb=>by
  obtain⟨b,o,e,hh⟩:=usrc_at (hu.below hb) (show 0<c.args.length by rw[hc.1];omega);refine⟨b,o,e,fun q hq=> ?_⟩;have:=hc.lt q;rw[hh q (by rw[hc.1];exact hq)];unfold argN;rw[Int.toNat_of_nonneg this.2]
 have HL1:Hid (∀j q,j<cs.length->argN (cs.getD j C.zero).args q<18446744073709551616):=fun j q hj=>by
  have:=(hcs _ (callL_mem hj)).lt q;exact this.1
 have HL2:Hid (∀q,argN c.args q<18446744073709551616):=fun q=>(hc.lt q).1
 have H0:Hid (∀i,SpC (colN (groupOf (cs.take 0) (idC c)) i) 0 0 18446744073709551615 18446744073709551615 true):=fun i=>SpC.zero
 have HS:Hid (∀i j,j<cs.length->(cs.getD j C.zero).arch≠c.arch∨(cs.getD j C.zero).nr≠c.nr->colN (groupOf (cs.take (j+1)) (idC c)) i=colN (groupOf (cs.take j) (idC c)) i):=fun i j hj h=>by
  rw[col_next hj,if_neg,List.append_nil];intro e;simp only[idC,Prod.mk.injEq]at e;rcases h with h|h
  ·exact h e.1
  exact h e.2
 have HT:Hid (∀i j,j<cs.length->(cs.getD j C.zero).arch=c.arch->(cs.getD j C.zero).nr=c.nr->colN (groupOf (cs.take (j+1)) (idC c)) i=colN (groupOf (cs.take j) (idC c)) i++[argN (cs.getD j C.zero).args i]):=fun i j hj h1 h2=>by
  rw[col_next hj,if_pos (by simp only[idC,h1,h2])]
 have HF:Hid (∀i lo hi on ze first,i<6->SpC (colN (groupOf (cs.take cs.length) (idC c)) i) lo hi on ze first->InSp cs c->first=false∧((lo<=argN c.args i∧argN c.args i<=hi)∨(argN c.args i&&&on=on∧argN c.args i&&&ze=0))):=fun i lo hi on ze first hi6 h hi=>by
  rw[List.take_length]at h;exact h.done (hi.2 i hi6) (fun e=>hi.1 (by simpa[colN]using e))
 have HP:Hid (∀b W,(InSp cs c->b=true)->Below w.heap.size w W->InP cs c w (.returned (.bool b)) W):=fun b W h1 h2=>⟨b,rfl,h1,h2⟩
 have X0:=Box3.new w 39 (.int .u32 c.arch) (.int .u32 c.nr) (.slice a' 6 cap');have B0:Below w.heap.size w (w.alloc (.cells #[.int .u32 c.arch,.int .u32 c.nr,.slice a' 6 cap'] 39)):=(Below.refl _ _).alloc (Nat.le_refl _) _;obtain⟨VS,hVS⟩:∃VS:Nat->Nat->List Nat,∀i j,colN (groupOf (cs.take j) (idC c)) i=VS i j:=⟨_,fun _ _=>rfl⟩;obtain⟨fa,hfa⟩:∃fa:Nat->Int,∀j,(cs.getD j C.zero).arch=fa j:=⟨_,fun _=>rfl⟩;obtain⟨fn,hfn⟩:∃fn:Nat->Int,∀j,(cs.getD j C.zero).nr=fn j:=⟨_,fun _=>rfl⟩;obtain⟨fv,hfv⟩:∃fv:Nat->Nat->Nat,∀j q,argN (cs.getD j C.zero).args q=fv j q:=⟨_,fun _ _=>rfl⟩;obtain⟨cv,hcv⟩:∃cv:Nat->Nat,∀q,argN c.args q=cv q:=⟨_,fun _=>rfl⟩;obtain⟨IS,hIS⟩:∃IS:Prop,InSp cs c=IS:=⟨_,rfl⟩;simp only[hVS,hfa,hfn,hfv,hcv,hIS]at HC HV HL1 HL2 H0 HS HT HF HP;generalize InP cs c w=POST at*;generalize c.arch=ar at*;generalize c.nr=nr at*;generalize cs.length=n at*;clear hVS hfa hfn hfv hcv hIS hs hcs hu hc;go_enter Tryz.func11,Tryz.ntmps11;go_wp2_with fail;generalize hW:w.alloc (.cells #[.int .u32 ar,.int .u32 nr,.slice a' 6 cap'] 39)=W at*;clear hW;go_loopw [5,6](fun fo u wr=>∃(i:Nat)(fb:Bool),i<=6∧u=.int .i64 (i:Int)∧fo=.bool fb∧Hid (0<i->fb=true)∧Below W.heap.size W wr)(fun _ u _=>6-(intOf u).toNat)
 case atStart=>exact⟨0,false,by omega,rfl,rfl,fun h=>by omega,Below.refl _ _⟩
 case round=>
  obtain⟨i,fb,hi6,rfl,rfl,HFb,hB⟩:=hrel;rename World=>wr
  by_cases hi:i<6
  ·have hi':(i:Int)<6:=by omega
   have HF1:Hid (∀lo hi on ze first,SpC (VS i n) lo hi on ze first->IS->first=false∧((lo<=cv i∧cv i<=hi)∨(cv i&&&on=on∧cv i&&&ze=0))):=fun lo hi' on ze first h hi2=>HF.out i lo hi' on ze first hi h hi2
   have H01:Hid _:=H0.out i;have hcv:=HL2.out i;clear HF H0 HL2 HFb;go_wp2_with fail;go_loopw [5,7,8,9,10,11,12](fun fo lo' hi' on' ze' fi' u wr=>∃(j lo hi on ze:Nat)(first fb:Bool),j<=n∧u=.int .i64 (j:Int)∧fo=.bool fb∧lo'=.int .u64 (lo:Int)∧hi'=.int .u64 (hi:Int)∧on'=.int .u64 (on:Int)∧ze'=.int .u64 (ze:Int)∧fi'=.bool first∧Hid (SpC (VS i j) lo hi on ze first)∧Hid (first=false->fb=true)∧Below W.heap.size W wr)(fun _ _ _ _ _ _ u _=>n-(intOf u).toNat)
   case atStart=>exact⟨0,0,0,18446744073709551615,18446744073709551615,true,fb,by omega,rfl,rfl,rfl,rfl,rfl,rfl,rfl,H01,fun h=>(nomatch h),hB⟩
   case round=>
    clear H01;obtain⟨j,lo,hi2,on,ze,first,fb2,hj,rfl,rfl,rfl,rfl,rfl,rfl,rfl,HSp,HFi,hB2⟩:=hrel;rename World=>w2
    obtain⟨_,k0,k1,k2,_,_,_⟩:=id (X0.keep hB2);by_cases hjn:j<n
    ·have hjn':(j:Int)<(n:Int):=by omega
     obtain⟨b,o,b',o',c',rfl,d0,d1,d2,d3⟩:=HC.out w2 (below_step hB2 B0) j hjn;have d4:=d3 i hi;have hx:=HL1.out j i hjn;have HSk:Hid _:=HS.out i j hjn;have HTk:Hid _:=HT.out i j hjn;clear HC HV HL1 HS HT HF1 d3;generalize fv j i=x at*;generalize fa j=fj at*;generalize fn j=gj at*;by_cases hcase:fj=ar∧gj=nr
     ·obtain⟨rfl,rfl⟩:=hcase;have hvs:=HTk.out rfl rfl;have A1:=u64_and on x HSp.out.l3 hx;have A2:=u64_andNot ze x HSp.out.l4 hx;have HNx:Hid (∀lo' hi',((first=true∨x<lo)∧lo'=x∨¬(first=true∨x<lo)∧lo'=lo)->((first=true∨hi2<x)∧hi'=x∨¬(first=true∨hi2<x)∧hi'=hi2)->SpC (VS i (j+1)) lo' hi' (on&&&x) (ze&&&inv x) false):=fun lo' hi' h1 h2=>by rw[hvs];exact HSp.out.next hx h1 h2
      clear HSk HTk HSp HFi hvs;go_wp2_with fail;go_quiet(fail);have B2:=below_drewN hB2 nq;have d2':(w2.drewN nq).cell? ⟨b,o+j*3+2,none⟩=some (.slice (some ⟨b',o',none⟩) 6 c'):=d2;have d4':(w2.drewN nq).cell? ⟨b',o'+i,none⟩=some (.int .u64 (x:Int)):=d4;clear d0 d1 d2 d4 k0 k1 k2 hB2;generalize w2.drewN nq=wq at*
      cases first with
      |true=>
       have HN1:Hid _:=HNx.out x x (.inl ⟨.inl rfl,rfl⟩) (.inl ⟨.inl rfl,rfl⟩);clear HNx;go_wp2;go_roundw
       case rel=>exact⟨j+1,x,x,on&&&x,ze&&&inv x,false,true,by omega,by go_num,rfl,rfl,rfl,rfl,rfl,rfl,HN1,fun _=>rfl,B2⟩
       case measure=>simp[intOf];omega
      |false=>
       by_cases hlo:x<lo
       ·have hlo':((x:Nat):Int)<((lo:Nat):Int):=by omega
        by_cases hhi:hi2<x
        ·have hhi':((hi2:Nat):Int)<((x:Nat):Int):=by omega
         have HN1:Hid _:=HNx.out x x (.inl ⟨.inr hlo,rfl⟩) (.inl ⟨.inr hhi,rfl⟩);clear HNx;go_wp2;go_roundw
         case rel=>exact⟨j+1,x,x,on&&&x,ze&&&inv x,false,true,by omega,by go_num,rfl,rfl,rfl,rfl,rfl,rfl,HN1,fun _=>rfl,B2⟩
         case measure=>simp[intOf];omega
        have hhi':¬((hi2:Nat):Int)<((x:Nat):Int):=by omega
        have HN1:Hid _:=HNx.out x hi2 (.inl ⟨.inr hlo,rfl⟩) (.inr ⟨by simpa using hhi,rfl⟩);clear HNx;go_wp2;go_roundw
        case rel=>exact⟨j+1,x,hi2,on&&&x,ze&&&inv x,false,true,by omega,by go_num,rfl,rfl,rfl,rfl,rfl,rfl,HN1,fun _=>rfl,B2⟩
        case measure=>simp[intOf];omega
       have hlo':¬((x:Nat):Int)<((lo:Nat):Int):=by omega
       by_cases hhi:hi2<x
       ·have hhi':((hi2:Nat):Int)<((x:Nat):Int):=by omega
        have HN1:Hid _:=HNx.out lo x (.inr ⟨by simpa using hlo,rfl⟩) (.inl ⟨.inr hhi,rfl⟩);clear HNx;go_wp2;go_roundw
        case rel=>exact⟨j+1,lo,x,on&&&x,ze&&&inv x,false,true,by omega,by go_num,rfl,rfl,rfl,rfl,rfl,rfl,HN1,fun _=>rfl,B2⟩
        case measure=>simp[intOf];omega
       have hhi':¬((hi2:Nat):Int)<((x:Nat):Int):=by omega
       have HN1:Hid _:=HNx.out lo hi2 (.inr ⟨by simpa using hlo,rfl⟩) (.inr ⟨by simpa using hhi,rfl⟩);clear HNx;go_wp2;go_roundw
       case rel=>exact⟨j+1,lo,hi2,on&&&x,ze&&&inv x,false,true,by omega,by go_num,rfl,rfl,rfl,rfl,rfl,rfl,HN1,fun _=>rfl,B2⟩
       case measure=>simp[intOf];omega
     have hvs:=HSk.out (by by_cases h:fj=ar;exact .inr fun e=>hcase ⟨h,e⟩;exact .inl h);have HS1:Hid (SpC (VS i (j+1)) lo hi2 on ze first):=by rw[hvs];exact HSp.out
     clear HSk HTk HSp hvs;by_cases ha:fj=ar
     ·have g1:(fj !=ar)=false:=by simpa using ha
      have g2:(gj !=nr)=true:=by rw[bne_iff_ne];exact fun e=>hcase ⟨ha,e⟩
      clear hcase;go_wp2_with fail;go_quiet(fail);have B2:=below_drewN hB2 nq;clear d0 d1 d2 d4 k0 k1 k2 hB2;generalize w2.drewN nq=wq at*;go_wp2;go_roundw
      case rel=>exact⟨j+1,lo,hi2,on,ze,first,fb2,by omega,by go_num,rfl,rfl,rfl,rfl,rfl,rfl,HS1,HFi,B2⟩
      case measure=>simp[intOf];omega
     have g1:(fj !=ar)=true:=by rw[bne_iff_ne];exact ha
     clear hcase;go_wp2_with fail;go_quiet(fail);have B2:=below_drewN hB2 nq;clear d0 d1 d2 d4 k0 k1 k2 hB2;generalize w2.drewN nq=wq at*;go_wp2;go_roundw
     case rel=>exact⟨j+1,lo,hi2,on,ze,first,fb2,by omega,by go_num,rfl,rfl,rfl,rfl,rfl,rfl,HS1,HFi,B2⟩
     case measure=>simp[intOf];omega
    obtain rfl:j=n:=by omega
    have hlt':¬(j:Int)<(j:Int):=by omega
    obtain⟨b5,o5,rfl,e3⟩:=HV.out w2 (below_step hB2 B0);have e4:=e3 i hi;have BF:=below_step hB2 B0;have A1:=u64_and (cv i) on hcv HSp.out.l3;have A2:=u64_and (cv i) ze hcv HSp.out.l4;have HD:Hid (IS->first=false∧((lo<=cv i∧cv i<=hi2)∨(cv i&&&on=on∧cv i&&&ze=0))):=HF1.out lo hi2 on ze first HSp.out
    clear HC HV HL1 HS HT HF1 e3 HSp;generalize cv i=v at*
    cases first with
    |true=>
     have HP1:Hid _:=HP.out false w2 (fun h=>by have:=(HD.out h).1;cases this) BF;clear HP HD;go_wp2;exact HP1.out
    |false=>
     have HD2:Hid (¬((lo<=v∧v<=hi2)∨(v&&&on=on∧v&&&ze=0))->¬IS):=fun h1 h2=>h1 (HD.out h2).2
     have hfb:=HFi.out rfl;subst hfb;clear HD HFi;generalize v&&&on=p at*;generalize v&&&ze=q at*;have BW:Below W.heap.size W w2:=hB2;by_cases r1:lo<=v<;>by_cases r2:v<=hi2<;>by_cases e1:p=on<;>by_cases e2:q=0
     all_goals
      (first|have ri1:((lo:Nat):Int)<=((v:Nat):Int):=by omega|have ri1:¬((lo:Nat):Int)<=((v:Nat):Int):=by omega);(first|have ri2:((v:Nat):Int)<=((hi2:Nat):Int):=by omega|have ri2:¬((v:Nat):Int)<=((hi2:Nat):Int):=by omega);(first|have ei1:(((p:Nat):Int)==((on:Nat):Int))=true:=by(rw[beq_iff_eq];omega)|have ei1:(((p:Nat):Int)==((on:Nat):Int))=false:=by(rw[beq_eq_false_iff_ne];omega));(first|have ei2:(((q:Nat):Int)==0)=true:=by(rw[beq_iff_eq];omega)|have ei2:(((q:Nat):Int)==0)=false:=by(rw[beq_eq_false_iff_ne];omega));first
      |(have hno:=HD2.out (by omega)
        have HP1:Hid _:=HP.out false w2 (fun h=>absurd h hno) BF
        clear HP HD2 hno
        go_wp2
        exact HP1.out)
      |(clear HD2
        go_wp2
        go_roundw
        case rel=>exact⟨i+1,true,by omega,by go_num,rfl,fun _=>rfl,BW⟩
        case measure=>simp[intOf];omega)
  obtain rfl:i=6:=by omega
  have HP1:Hid _:=HP.out fb wr (fun _=>HFb.out (by omega)) (below_step hB B0);clear HP HFb HC HV HL1 HL2 H0 HS HT HF;go_wp2;exact HP1.out
set_option linter.unusedSimpArgs false
def TakP(w:World)(e:Ending)(w':World):Prop:=∃x:Int,e=.returned (.int .i64 x)∧0<=x∧x<=255∧Below w.heap.size w w'
theorem takL_any(l:List Int)(a:Option Addr)(cap i:Nat)(w:World)(hs:BSrc w a l)(hl:isBytes l)(hn:l.length<=1048576)(hi:i<=1000000):
 Calls Tryz.prog 37 #[.slice a l.length cap,.int .i64 (i:Int)] w (TakP w):=by
 have B:Below w.heap.size w w:=Below.refl _ _;by_cases h0:l.length=0
 ·rw[h0];go_enter Tryz.func37,Tryz.ntmps37;go_wp2;go_ret;exact⟨0,rfl,by omega,by omega,B⟩
 have hq:i%l.length<l.length:=Nat.mod_lt _ (by omega);obtain⟨b,o,rfl,hc⟩:∃b o,a=some ⟨b,o,none⟩∧w.cell? ⟨b,o+i%l.length,none⟩=some (.int .u8 (l.getD (i%l.length) 0)):=by
  rcases hs with rfl|⟨b,o,rfl,hlt,hc⟩
  ·simp at h0
  exact⟨b,o,rfl,hc _ hq⟩
 have hb:=isBytes_getD hl (i%l.length);have e1:((i:Int)%(l.length:Int))=((i%l.length:Nat):Int):=by simp
 have hn0:¬(l.length:Int)=0:=by omega
 have hnb:((l.length:Int)==0)=false:=by simpa using h0
 generalize i%l.length=q at*;generalize l.getD q 0=x at*;generalize l.length=n at*;clear hs hl;go_enter Tryz.func37,Tryz.ntmps37;go_wp2;go_ret;exact⟨x,rfl,by omega,by omega,B⟩
def NumP(w:World)(e:Ending)(w':World):Prop:=∃x:Int,e=.returned (.int .u64 x)∧isU64 x∧Below w.heap.size w w'
theorem numL_any(l:List Int)(a:Option Addr)(cap i:Nat)(w:World)(hs:BSrc w a l)(hl:isBytes l)(hn:l.length<=1048576)(hi:i<=1000):
 Calls Tryz.prog 38 #[.slice a l.length cap,.int .i64 (i:Int)] w (NumP w):=by
 have HT:Hid (∀(k:Nat)wr,k<8->Below w.heap.size w wr->Calls Tryz.prog 37 #[.slice a l.length cap,.int .i64 ((i:Int)+(k:Int))] wr (TakP wr)):=fun k wr hk hb=>by
  have:=takL_any l a cap (i+k) wr (hs.below hb) hl hn (by omega);rw[show((i+k:Nat):Int)=(i:Int)+(k:Int)by omega]at this;exact this
 clear hs hl;generalize l.length=n at*;go_enter Tryz.func38,Tryz.ntmps38;go_wp2_with fail;go_loopw [5,6](fun v u wr=>∃(x:Int)(k:Nat),v=.int .u64 x∧u=.int .i64 (k:Int)∧k<=8∧Hid (isU64 x)∧Below w.heap.size w wr)(fun _ u _=>8-(intOf u).toNat)
 case atStart=>exact⟨0,0,rfl,rfl,by omega,by show isU64 0;unfold isU64;omega,Below.refl _ _⟩
 case round=>
  obtain⟨x,k,rfl,rfl,hk,hx,hB⟩:=hrel;rename World=>wr
  by_cases h8:k<8
  ·have h8':(k:Int)<8:=by omega
   have H1:Hid _:=HT.out k wr h8 hB;have e1:IntKind.i64.wrap ((i:Int)+(k:Int))=(i:Int)+(k:Int):=by rw[IntKind.wrap_i64];omega
   clear HT;go_wp2_with fail;refine Calls.mono H1.out ?_;rintro _ w1⟨y,rfl,y0,y1,hb1⟩;have B1:=below_step hb1 hB;clear H1 hB hb1;go_wp2;go_roundw
   case rel=>exact⟨_,k+1,rfl,by go_num,by omega,by show isU64 _;unfold isU64;simp only[IntKind.wrap_u64];omega,B1⟩
   case measure=>simp[intOf];omega
  obtain rfl:k=8:=by omega
  clear HT;go_wp2;go_ret;exact⟨x,rfl,hx.out,hB⟩
end Go.Proofs.YtddemlfepjkgoaaGreat
namespace Go.Proofs.YtddemlfepjkgoaaGreat
open Go.RowKit Go.Deep
set_option linter.unusedSimpArgs false
theorem ownsU_sixO(w:World)(x1 x2 x3 x4 x5 x6:Int):ownsU (w.alloc (.cells #[.int .u64 x1,.int .u64 x2,.int .u64 x3,.int .u64 x4,.int .u64 x5,.int .u64 x6] 69)) w.heap.size (.slice (some ⟨w.heap.size,0,none⟩) 6 6) [x1,x2,x3,x4,x5,x6]:=
 ⟨rfl,.inr ⟨w.heap.size,6,#[.int .u64 x1,.int .u64 x2,.int .u64 x3,.int .u64 x4,.int .u64 x5,.int .u64 x6],rfl,Nat.le_refl _,Go.Deep.blk_alloc_new _ _,Nat.le_refl _,by simp[maxLen],rfl,rfl⟩⟩
def isU32(x:Int):Prop:=0<=x∧x<=4294967295
structure OtS(w W:World)(G g:Nat)(ar nr:Int)(xs:List Int):Prop where
 b:Below w.heap.size w W
 res:Box3 W w.heap.size (.int .u32 0) (.int .u32 0) (.slice none 0 0)
 box:Box3 W G (.int .u32 ar) (.int .u32 nr) (.slice (some ⟨g,0,none⟩) 6 6)
 own:ownsU W (w.heap.size+1) (.slice (some ⟨g,0,none⟩) 6 6) xs
 hG:w.heap.size<G
 ne:g≠G
 len:xs.length=6
 ok:∀x∈xs,isU64 x
 oa:isU32 ar
 on:isU32 nr
section
variable{w W W1:World}{G g:Nat}{ar nr:Int}{xs:List Int}
theorem OtS.keep(h:OtS w W G g ar nr xs)(hb:Below W.heap.size W W1):OtS w W1 G g ar nr xs:=
 ⟨below_step hb h.b,h.res.keep hb,h.box.keep hb,ownsU_below h.own hb,h.hG,h.ne,h.len,h.ok,h.oa,h.on⟩
theorem OtS.hg(h:OtS w W G g ar nr xs):w.heap.size<g:=(h.own.lt g rfl).1
theorem OtS.put(h:OtS w W G g ar nr xs){i:Nat}(hi:i<6){u:Int}(hu:isU64 u):OtS w (W.setCell ⟨g,i,none⟩ (.int .u64 u)) G g ar nr (xs.set i u):=
 ⟨h.b.setCell (p:=⟨g,i,none⟩) (Nat.le_of_lt h.hg) _,h.res.setO (Nat.ne_of_lt h.hg),h.box.setO (Ne.symm h.ne),ownsU_put u h.own (by rw[h.len];exact hi),h.hG,h.ne,by rw[List.length_set];exact h.len,fun x hx=>by
  rcases List.mem_or_eq_of_mem_set hx with h1|rfl
  ·exact h.ok x h1
  exact hu,h.oa,h.on⟩
theorem OtS.arch(h:OtS w W G g ar nr xs){u:Int}(hu:isU32 u):OtS w (W.setCell ⟨G,0,none⟩ (.int .u32 u)) G g u nr xs:=
 ⟨h.b.setCell (p:=⟨G,0,none⟩) (Nat.le_of_lt h.hG) _,h.res.setO (Nat.ne_of_lt h.hG),h.box.set0 _,ownsRow_setCell_other h.own (by simpa[Value.ownBlock]using h.ne) _,h.hG,h.ne,h.len,h.ok,hu,h.on⟩
theorem OtS.nrr(h:OtS w W G g ar nr xs){u:Int}(hu:isU32 u):OtS w (W.setCell ⟨G,1,none⟩ (.int .u32 u)) G g ar u xs:=
 ⟨h.b.setCell (p:=⟨G,1,none⟩) (Nat.le_of_lt h.hG) _,h.res.setO (Nat.ne_of_lt h.hG),h.box.set1 _,ownsRow_setCell_other h.own (by simpa[Value.ownBlock]using h.ne) _,h.hG,h.ne,h.len,h.ok,h.oa,hu⟩
theorem OtS.cell(h:OtS w W G g ar nr xs){i:Nat}(hi:i<6):W.cell? ⟨g,i,none⟩=some (.int .u64 (xs.getD i 0))∧W.frozen? ⟨g,i,none⟩=false∧isU64 (xs.getD i 0):=by
 have hl:=h.len;have hlt:i<xs.length:=by omega
 have e:xs.getD i 0=xs[i]:=by rw[List.getD_eq_getElem?_getD,List.getElem?_eq_getElem hlt];rfl
 obtain⟨h0,h1|⟨g',cap,cur,e',hb,hg,hn,hm,hs,hx⟩⟩:=h.own
 ·cases h1.1
 simp only[Value.slice.injEq,Option.some.injEq,Addr.mk.injEq]at e';obtain⟨⟨rfl,_,_⟩,_,rfl⟩:=e';have hc:=h.own.cells rfl i (.int .u64 (xs.getD i 0)) (by rw[List.getElem?_map,List.getElem?_eq_getElem hlt,e];rfl);rw[add_at,Nat.zero_add]at hc;exact⟨hc,by simp[World.frozen?,hg],e▸h.ok _ (List.getElem_mem hlt)⟩
theorem OtS.new(w:World)(t:TypeId):OtS w (((w.alloc (.cells #[.int .u32 0,.int .u32 0,.slice none 0 0] t)).alloc (.cells #[.int .u32 0,.int .u32 0,.slice (some ⟨w.heap.size+1+1,0,none⟩) 6 6] t)).alloc (.cells (madeCells #[.int .u64 0] 6) 69)) (w.heap.size+1) (w.heap.size+1+1) 0 0 [0,0,0,0,0,0]:=by
 have hs:(w.alloc (.cells #[.int .u32 0,.int .u32 0,.slice none 0 0] t)).heap.size=w.heap.size+1:=by simp
 have hs2:((w.alloc (.cells #[.int .u32 0,.int .u32 0,.slice none 0 0] t)).alloc (.cells #[.int .u32 0,.int .u32 0,.slice (some ⟨w.heap.size+1+1,0,none⟩) 6 6] t)).heap.size=w.heap.size+1+1:=by simp
 have b1:Below w.heap.size w ((w.alloc (.cells #[.int .u32 0,.int .u32 0,.slice none 0 0] t)).alloc (.cells #[.int .u32 0,.int .u32 0,.slice (some ⟨w.heap.size+1+1,0,none⟩) 6 6] t)):=((Below.refl _ _).alloc (Nat.le_refl _) _).alloc (by omega) _;have e:madeCells #[.int .u64 0] 6= #[.int .u64 0,.int .u64 0,.int .u64 0,.int .u64 0,.int .u64 0,.int .u64 0]:=by kernel_rfl
 rw[e];have ho:=ownsU_sixO ((w.alloc (.cells #[.int .u32 0,.int .u32 0,.slice none 0 0] t)).alloc (.cells #[.int .u32 0,.int .u32 0,.slice (some ⟨w.heap.size+1+1,0,none⟩) 6 6] t)) 0 0 0 0 0 0;have hx:=Box3.new (w.alloc (.cells #[.int .u32 0,.int .u32 0,.slice none 0 0] t)) t (.int .u32 0) (.int .u32 0) (.slice (some ⟨w.heap.size+1+1,0,none⟩) 6 6);rw[hs2]at ho;rw[hs]at hx;exact⟨b1.alloc (by omega) _,((Box3.new w t _ _ _).alloc _).alloc _,hx.alloc _,ownsU_mono ho (by omega),by omega,by omega,rfl,fun x hx=>by simp at hx;subst hx;unfold isU64;omega,⟨by omega,by omega⟩,⟨by omega,by omega⟩⟩
def OthP(w:World)(e:Ending)(w':World):Prop:=∃(c:C)(g:Nat),e=.returned (.agg #[.int .u32 c.arch,.int .u32 c.nr,.slice (some ⟨g,0,none⟩) 6 6])∧USrc w' (some ⟨g,0,none⟩) c.args∧isU32 c.arch∧isU32 c.nr∧okLa c.args∧Below w.heap.size w w'
theorem OtS.out(h:OtS w W G g ar nr xs):OthP w (.returned (.agg #[.int .u32 ar,.int .u32 nr,.slice (some ⟨g,0,none⟩) 6 6])) (((W.setCell ⟨w.heap.size,0,none⟩ (.int .u32 ar)).setCell ⟨w.heap.size,1,none⟩ (.int .u32 nr)).setCell ⟨w.heap.size,2,none⟩ (.slice (some ⟨g,0,none⟩) 6 6)):=by
 have hne:(Value.slice (some ⟨g,0,none⟩) 6 6).ownBlock≠some w.heap.size:=by have:=h.hg;simp[Value.ownBlock];omega
 have ho:ownsU (((W.setCell ⟨w.heap.size,0,none⟩ (.int .u32 ar)).setCell ⟨w.heap.size,1,none⟩ (.int .u32 nr)).setCell ⟨w.heap.size,2,none⟩ (.slice (some ⟨g,0,none⟩) 6 6)) (w.heap.size+1) (.slice (some ⟨g,0,none⟩) 6 6) xs:=ownsRow_setCell_other (ownsRow_setCell_other (ownsRow_setCell_other h.own hne _) hne _) hne _;obtain⟨a2,c2,e,hu⟩:=ownsU_src ho;simp only[Value.slice.injEq]at e;obtain⟨rfl,_,_⟩:=e;exact⟨⟨ar,nr,xs⟩,g,rfl,hu,h.oa,h.on,⟨h.len,h.ok⟩,((h.b.setCell (p:=⟨w.heap.size,0,none⟩) (Nat.le_refl _) _).setCell (p:=⟨w.heap.size,1,none⟩) (Nat.le_refl _) _).setCell (p:=⟨w.heap.size,2,none⟩) (Nat.le_refl _) _⟩
end
end Go.Proofs.YtddemlfepjkgoaaGreat
