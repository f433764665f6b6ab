import Derived.Test.YtddemlfepjkgoaaGreatQ07
set_option linter.all false
set_option maxRecDepth 200000
set_option maxHeartbeats 16000000
namespace Go.Proofs.YtddemlfepjkgoaaGreat
def pointK(v:Nat):K:=⟨1,18446744073709551615,v⟩
theorem ones_or{v:Nat}(h:v<18446744073709551616):18446744073709551615|||v=18446744073709551615:=by
 apply Nat.eq_of_testBit_eq;intro i;have e:(18446744073709551615:Nat)=low 64:=low_64.symm;rw[Nat.testBit_or,e,bit_low];by_cases hi:i<64
 ·simp[hi]
 rw[bit_hi h (by omega)];simp
theorem and_ones{v:Nat}(h:v<18446744073709551616):v&&&18446744073709551615=v:=by
 apply Nat.eq_of_testBit_eq;intro i;have e:(18446744073709551615:Nat)=low 64:=low_64.symm;rw[Nat.testBit_and,e,bit_low];by_cases hi:i<64
 ·simp[hi]
 rw[bit_hi h (by omega)];simp
theorem pointK_normal{v:Nat}(h:v<18446744073709551616):Normal (pointK v):=.inr (.inl ⟨_,_,rfl,by decide,by decide,ones_or h⟩)
theorem pointK_holds{v x:Nat}(hx:x<18446744073709551616):holdsK (pointK v) x=true↔x=v:=by
 rw[pointK,holds_mask,and_ones hx,beq_iff_eq]
theorem difN_const{vs:List Nat}{v:Nat}(h:∀i,i<vs.length->vs.getD i 0=v):∀n,n<=vs.length->difN vs n=0
 |0,_=>rfl
 |n+1,hn=>by
  rw[difN,difN_const h n (by omega),h n (by omega),h 0 (by omega)];simp
theorem minN_const{vs:List Nat}{v:Nat}(h:∀i,i<vs.length->vs.getD i 0=v):∀n,n+1<=vs.length->minN vs (n+1)=v∧maxN vs (n+1)=v
 |0,hn=>by rw[minN_1,maxN_1];exact⟨h 0 (by omega),h 0 (by omega)⟩
 |n+1,hn=>by
  obtain⟨h1,h2⟩:=minN_const h n (by omega);rw[minN,maxN,h1,h2,h (n+1) (by omega)];simp
theorem cover_const{vs:List Nat}{v:Nat}{f:Int}(hv:v<18446744073709551616)(h0:0<vs.length)(h:∀i,i<vs.length->vs.getD i 0=v)(hf:0<=f∧f<=2):coverK vs f=pointK v:=by
 have d:=difN_const h vs.length (Nat.le_refl _);have ca:covA vs=18446744073709551615:=by rw[covA,d];rfl
 have cb:covB vs=v:=by rw[covB,d,h 0 h0];show v&&&18446744073709551615=v;exact and_ones hv
 obtain⟨n,hn⟩:∃n,vs.length=n+1:=⟨vs.length-1,by omega⟩;obtain⟨m1,m2⟩:=minN_const h n (by omega);have e1:newMask 18446744073709551615 v=pointK v:=by simp[newMask,pointK]
 have e2:newRange v v=pointK v:=by
  unfold newRange;rw[Nat.xor_self,if_pos ⟨by decide,by simp⟩];exact e1
 have e3:moreK 18446744073709551615=0:=by decide
 unfold coverK;rw[if_neg (by omega),ca,cb,hn,m1,m2,e3,e1,e2];split<;>rfl
def SpanN(vs:List Nat)(v:Nat):Prop:=(∃i j,i<vs.length∧j<vs.length∧vs.getD i 0<=v∧v<=vs.getD j 0)∨(∀k b,(∀i,i<vs.length->(vs.getD i 0).testBit k=b)->v.testBit k=b)
theorem minN_mem{vs:List Nat}:∀n,n+1<=vs.length->(∃i,i<vs.length∧vs.getD i 0=minN vs (n+1))∧(∃i,i<vs.length∧vs.getD i 0=maxN vs (n+1))
 |0,hn=>⟨⟨0,by omega,by rw[minN_1]⟩,⟨0,by omega,by rw[maxN_1]⟩⟩
 |n+1,hn=>by
  obtain⟨h1,h2⟩:=minN_mem (vs:=vs) n (by omega);constructor
  ·rw[minN];split
   ·exact⟨n+1,by omega,rfl⟩
   exact h1
  rw[maxN];split
  ·exact⟨n+1,by omega,rfl⟩
  exact h2
theorem cover_span{vs:List Nat}(h:All64 vs)(h0:0<vs.length){f:Int}(hf:0<=f∧f<=2){v:Nat}(hv:v<18446744073709551616)(hh:holdsK (coverK vs f) v=true):SpanN vs v:=by
 obtain⟨n,hn⟩:∃n,vs.length=n+1:=⟨vs.length-1,by omega⟩;unfold coverK at hh;rw[if_neg (by omega)]at hh;split at hh
 ·right;rw[newMask_holds (cov_valid _),holds_mask,beq_iff_eq]at hh;intro k b hb;have hk:∀i,(v.testBit i&&(covA vs).testBit i)=(covB vs).testBit i:=mask_bits.1 hh;by_cases h64:k<64
  ·have e:=hk k;have a1:(covA vs).testBit k=true:=(covA_bit h h0 h64).2 (by
    cases b with
    |false=>left;exact(onesN_zero vs k _).2 hb
    |true=>right;exact(onesN_all vs k _).2 hb)
   rw[a1,Bool.and_true]at e;rw[e]
   cases b with
   |true=>exact(covB_bit h h0 h64).2 ((onesN_all vs k _).2 hb)
   |false=>
    cases h1:(covB vs).testBit k with
    |false=>rfl
    |true=>
     have:=(onesN_all vs k _).1 ((covB_bit h h0 h64).1 h1) 0 h0;rw[hb 0 h0]at this;exact this.symm
  rw[bit_hi hv (by omega)];have:=hb 0 h0;rw[bit_hi (h 0) (by omega)]at this;exact this
 left;rw[newRange_holds (min_max _ _) (maxN_lt h _) hv,holds_range,Bool.and_eq_true,decide_eq_true_eq,decide_eq_true_eq,hn]at hh;obtain⟨⟨i,hi,e1⟩,⟨j,hj,e2⟩⟩:=minN_mem (vs:=vs) n (by omega);exact⟨i,j,hi,hj,by rw[e1];exact hh.1,by rw[e2];exact hh.2⟩
theorem SpanN.sub{vs us:List Nat}{v:Nat}(h:SpanN vs v)(hs:∀x∈vs,x∈us):SpanN us v:=by
 have idx:∀i,i<vs.length->∃j,j<us.length∧us.getD j 0=vs.getD i 0:=by
  intro i hi;have:vs.getD i 0∈us:=hs _ (by rw[List.getD_eq_getElem?_getD,List.getElem?_eq_getElem hi];exact List.getElem_mem hi);obtain⟨j,hj,e⟩:=List.getElem_of_mem this;exact⟨j,hj,by rw[List.getD_eq_getElem?_getD,List.getElem?_eq_getElem hj];exact e⟩
 rcases h with⟨i,j,hi,hj,h1,h2⟩|h
 ·obtain⟨i',hi',e1⟩:=idx i hi;obtain⟨j',hj',e2⟩:=idx j hj;exact .inl ⟨i',j',hi',hj',by rw[e1];exact h1,by rw[e2];exact h2⟩
 refine .inr fun k b hb=>h k b fun i hi=> ?_
 obtain⟨j,hj,e⟩:=idx i hi;rw[<-e];exact hb j hj
abbrev La:=List Int
def colN(t:List La)(i:Nat):List Nat:=t.map fun a=>(a.getD i 0).toNat
def exactR(a:La):Ru:=(List.range 6).map fun i=>pointK (a.getD i 0).toNat
def coverR(t:List La)(f:Int):Ru:=(List.range 6).map fun i=>coverK (colN t i) f
def withV(t:List La)(j:Nat)(v:Int):List La:=t.filter fun a=>a.getD j 0==v
def Diff(t:List La)(j:Nat)(d:List Int):Prop:=DistG ordI (t.map fun a=>a.getD j 0) d
def MaySplit(t:List La)(sp:Int)(j:Nat):Prop:=∃d,Diff t j d∧2<=d.length∧(d.length:Int)<=sp
def IsRules(t:List La)(ex sp f:Int)(out:List Ru):Prop:=
 if(t.length:Int)<=ex then out=t.map exactR
 else(∃j d,j<6∧MaySplit t sp j∧(∀i,i<j->¬MaySplit t sp i)∧Diff t j d∧out=d.map fun v=>coverR (withV t j v) f)∨((∀i,i<6->¬MaySplit t sp i)∧out=[coverR t f])
theorem Diff.uniq{t:List La}{j:Nat}{d e:List Int}(h:Diff t j d)(h':Diff t j e):d=e:=distG_uniq linI h h'
theorem IsRules.uniq {t : List La} {ex sp f : Int} {out out' : List Ru} (h : IsRules t ex sp f out) (h' : IsRules t ex sp f out') : out = out' := by
  unfold IsRules at h h'
  by_cases h0 : (t.length : Int) <= ex
  · rw [if_pos h0] at h h'; rw [h, h']
  · rw [if_neg h0] at h h'
    rcases h with ⟨j, d, h1, h2, h3, h4, rfl⟩ | ⟨h1, rfl⟩
    · rcases h' with ⟨j', d', k1, k2, k3, k4, rfl⟩ | ⟨k1, rfl⟩
      · have : j = j' := by
          rcases Nat.lt_trichotomy j j' with g | g | g
          · exact absurd h2 (k3 j g)
          · exact g
          · exact absurd k2 (h3 j' g)
        subst this
        rw [h4.uniq k4]
      · exact absurd h2 (k1 j h1)
    · rcases h' with ⟨j', d', k1, k2, k3, k4, rfl⟩ | ⟨k1, rfl⟩
      · exact absurd k2 (h1 j' k1)
      · rfl
def okLa(a:La):Prop:=a.length=6∧∀y∈a,0<=y∧y<=18446744073709551615
theorem okLa.lt{a:La}(h:okLa a)(i:Nat):argN a i<18446744073709551616∧0<=a.getD i 0:=by
 unfold argN;by_cases hi:i<a.length
 ·have:=h.2 (a.getD i 0) (by rw[List.getD_eq_getElem?_getD,List.getElem?_eq_getElem hi];exact List.getElem_mem hi);omega
 rw[List.getD_eq_getElem?_getD,List.getElem?_eq_none (by omega)];simp
theorem colN_len(t:List La)(i:Nat):(colN t i).length=t.length:=by simp[colN]
theorem colN_get{t:List La}(i:Nat){q:Nat}(h:q<t.length):(colN t i).getD q 0=argN (t.getD q []) i:=by
 simp[colN,argN,List.getD_eq_getElem?_getD,List.getElem?_eq_getElem h]
theorem colN_all{t:List La}(h:∀a∈t,okLa a)(i:Nat):All64 (colN t i):=by
 intro q;by_cases hq:q<t.length
 ·rw[colN_get i hq];exact((h _ (by rw[List.getD_eq_getElem?_getD,List.getElem?_eq_getElem hq];exact List.getElem_mem hq)).lt i).1
 rw[List.getD_eq_getElem?_getD,List.getElem?_eq_none (by rw[colN_len];omega)];simp
theorem colN_sub{t u:List La}(h:∀a∈t,a∈u)(i:Nat):∀x∈colN t i,x∈colN u i:=by
 intro x hx;simp only[colN,List.mem_map]at hx⊢;obtain⟨a,ha,rfl⟩:=hx;exact⟨a,h a ha,rfl⟩
theorem six_getD(g:Nat->K){i:Nat}(h:i<6):((List.range 6).map g).getD i K.zero=g i:=by
 simp[List.getD_eq_getElem?_getD,h]
theorem six_NR{g:Nat->K}(h:∀i,i<6->Normal (g i)):NR ((List.range 6).map g):=by
 refine⟨by simp,fun i=> ?_⟩;by_cases hi:i<6
 ·rw[six_getD g hi];exact h i hi
 rw[List.getD_eq_getElem?_getD,List.getElem?_eq_none (by simpa using hi)];exact normal_zero
theorem coverR_NR{t:List La}(h:∀a∈t,okLa a)(f:Int):NR (coverR t f):=six_NR fun i _=>coverK_normal (colN_all h i) f
theorem exactR_NR{a:La}(h:okLa a):NR (exactR a):=six_NR fun i _=>pointK_normal (h.lt i).1
theorem coverR_holds{t:List La}(h:∀a∈t,okLa a)(f:Int){a:La}(ha:a∈t):holdsR (coverR t f) (argN a):=by
 intro i hi;rw[coverR,six_getD _ hi];obtain⟨q,hq,rfl⟩:=List.getElem_of_mem ha;have:=coverK_holds (colN_all h i) f (j:=q) (by rw[colN_len];exact hq);rw[colN_get i hq,List.getD_eq_getElem?_getD,List.getElem?_eq_getElem hq]at this;exact this
theorem exactR_holds{a:La}(h:okLa a):holdsR (exactR a) (argN a):=by
 intro i hi;rw[exactR,six_getD _ hi];exact(pointK_holds (h.lt i).1).2 rfl
theorem coverR_span{t u:List La}(h:∀a∈t,okLa a)(h0:t≠[])(hs:∀a∈t,a∈u){f:Int}(hf:0<=f∧f<=2){A:Nat->Nat}(hA:A64 A)(hh:holdsR (coverR t f) A):∀i,i<6->SpanN (colN u i) (A i):=by
 intro i hi;have:=hh i hi;rw[coverR,six_getD _ hi]at this;refine(cover_span (colN_all h i) ?_ hf (hA i) this).sub (colN_sub hs i);rw[colN_len]
 cases t with
 |nil=>exact absurd rfl h0
 |cons a t=>simp
theorem exactR_span{u:List La}{a:La}(h:okLa a)(ha:a∈u){A:Nat->Nat}(hA:A64 A)(hh:holdsR (exactR a) A):∀i,i<6->SpanN (colN u i) (A i):=by
 intro i hi;have:=hh i hi;rw[exactR,six_getD _ hi]at this;have e:=(pointK_holds (hA i)).1 this;obtain⟨q,hq,e2⟩:=List.getElem_of_mem ha;have e3:(colN u i).getD q 0=A i:=by
  rw[colN_get i hq,List.getD_eq_getElem?_getD,List.getElem?_eq_getElem hq,e,e2];rfl
 exact .inl ⟨q,q,by rw[colN_len];exact hq,by rw[colN_len];exact hq,by omega,by omega⟩
structure RulesFacts(t:List La)(out:List Ru):Prop where
 nr:NRs out
 ne:out≠[]
 len:out.length<=t.length
 l200:out.length<=200
 yes:∀a∈t,allowsR out (argN a)
 span:∀A,A64 A->allowsR out A->∀i,i<6->SpanN (colN t i) (A i)
theorem IsRules.facts{t:List La}{ex sp f:Int}{out:List Ru}(ht:∀a∈t,okLa a)(h0:t≠[])(hx:ex<=200)(hsp:sp<=200)(hf:0<=f∧f<=2)(h:IsRules t ex sp f out):RulesFacts t out:=by
 have tl:1<=t.length:=by
  cases t with
  |nil=>exact absurd rfl h0
  |cons a t=>simp
 unfold IsRules at h;by_cases h1:(t.length:Int)<=ex
 ·rw[if_pos h1]at h;subst h;refine⟨?_,by simpa using h0,by simp,by simp;omega,?_,?_⟩
  ·intro r hr;simp only[List.mem_map]at hr;obtain⟨a,ha,rfl⟩:=hr;exact exactR_NR (ht a ha)
  ·intro a ha;exact⟨exactR a,List.mem_map.2 ⟨a,ha,rfl⟩,exactR_holds (ht a ha)⟩
  rintro A hA⟨r,hr,h⟩;simp only[List.mem_map]at hr;obtain⟨a,ha,rfl⟩:=hr;exact exactR_span (ht a ha) ha hA h
 rw[if_neg h1]at h;rcases h with⟨j,d,hj,⟨d',hd',hd2,hd3⟩,_,hd,rfl⟩|⟨_,rfl⟩
 ·obtain rfl:=hd.uniq hd';have hw:∀v,∀a∈withV t j v,okLa a:=fun v a ha=>ht a ((List.mem_filter.1 ha).1)
  have dl:d.length<=t.length:=by
   have:=nodup_len (ascG_nodup linI hd.1) fun c hc=>(hd.2 c).1 hc
   simpa using this
  refine⟨?_,?_,by simpa using dl,by simp;omega,?_,?_⟩
  ·intro r hr;simp only[List.mem_map]at hr;obtain⟨v,_,rfl⟩:=hr;exact coverR_NR (hw v) f
  ·intro e;have:(d.map fun v=>coverR (withV t j v) f).length=0:=by rw[e];rfl
   simp at this;rw[this]at hd2;simp at hd2
  ·intro a ha;have hv:a.getD j 0∈d:=(hd.2 _).2 (List.mem_map.2 ⟨a,ha,rfl⟩);exact⟨_,List.mem_map.2 ⟨_,hv,rfl⟩,coverR_holds (hw _) f (by simp[withV,ha])⟩
  rintro A hA⟨r,hr,h⟩;simp only[List.mem_map]at hr;obtain⟨v,hv,rfl⟩:=hr;have:=(hd.2 v).1 hv;simp only[List.mem_map]at this;obtain⟨a,ha,rfl⟩:=this;refine coverR_span (hw _) ?_ (fun b hb=>(List.mem_filter.1 hb).1) hf hA h;intro e;have:a∈withV t j (a.getD j 0):=by simp[withV,ha]
  rw[e]at this;simp at this
 refine⟨?_,by simp,by simpa using tl,by simp,?_,?_⟩
 ·intro r hr;simp only[List.mem_singleton]at hr;subst hr;exact coverR_NR ht f
 ·intro a ha;exact⟨_,by simp,coverR_holds ht f ha⟩
 rintro A hA⟨r,hr,h⟩;simp only[List.mem_singleton]at hr;subst hr;exact coverR_span ht h0 (fun a h=>h) hf hA h
abbrev Id2:=Int×Int
def idC(c:C):Id2:=(c.arch,c.nr)
def ordP(a b:Id2):Int:=thenO (ordI a.1 b.1) (ordI a.2 b.2)
theorem ordP_lex(a b:Id2):ordP a b=lexO ordI [a.1,a.2] [b.1,b.2]:=by
 simp only[ordP,thenO,lexO];split
 ·split
  ·assumption
  rfl
 rfl
theorem linP:Lin ordP:=by
 have L:=lexO_lin linI;refine⟨fun a=>by rw[ordP_lex];exact L.self _,fun a b h=> ?_,fun a b=>by rw[ordP_lex,ordP_lex];exact L.anti _ _,fun a b c h h'=>by rw[ordP_lex]at*;exact L.trans _ _ _ h h'⟩;rw[ordP_lex]at h;have:=L.zero _ _ h;simp at this;exact Prod.ext this.1 this.2
theorem ordL_lex:∀a b:List Int,ordL a b=lexO ordI a b
 |[],[]=>rfl
 |[],_::_=>rfl
 |_::_,[]=>rfl
 |a::r,b::s=>by rw[ordL,lexO,ordL_lex r s]
theorem linL:Lin ordL:=by
 have e:ordL=lexO ordI:=funext fun a=>funext fun b=>ordL_lex a b
 rw[e];exact lexO_lin linI
def groupOf(cs:List C)(i:Id2):List La:=(cs.filter fun c=>decide (idC c=i)).map C.args
def IsLearn(cs:List C)(ex sp f:Int)(out:List E):Prop:=
 ∃ids:List Id2,DistG ordP (cs.map idC) ids∧out.length=ids.length∧∀i,i<ids.length->((out.getD i E.zero).arch,(out.getD i E.zero).nr)=ids.getD i (0,0)∧∃t,DistG ordL (groupOf cs (ids.getD i (0,0))) t∧IsRules t ex sp f (out.getD i E.zero).rules
theorem IsLearn.uniq{cs:List C}{ex sp f:Int}{out out':List E}(h:IsLearn cs ex sp f out)(h':IsLearn cs ex sp f out'):out=out':=by
 obtain⟨ids,h1,h2,h3⟩:=h;obtain⟨ids',k1,k2,k3⟩:=h';obtain rfl:=distG_uniq linP h1 k1;apply ext_getD E.zero (by rw[h2,k2]);intro i hi;rw[h2]at hi;obtain⟨a,t,b,c⟩:=h3 i hi;obtain⟨a',t',b',c'⟩:=k3 i hi;obtain rfl:=distG_uniq linL b b';have e:=c.uniq c';rw[<-a']at a;generalize out.getD i E.zero=x at*;generalize out'.getD i E.zero=y at*;obtain⟨x1,x2,x3⟩:=x;obtain⟨y1,y2,y3⟩:=y;simp at a e;rw[a.1,a.2,e]
def okCall(c:C):Prop:=(0<=c.arch∧c.arch<=4294967295)∧(0<=c.nr∧c.nr<=4294967295)∧okLa c.args
theorem group_ok{cs:List C}(h:∀c∈cs,okCall c)(i:Id2):∀a∈groupOf cs i,okLa a:=by
 intro a ha;simp only[groupOf,List.mem_map,List.mem_filter]at ha;obtain⟨c,⟨hc,_⟩,rfl⟩:=ha;exact(h c hc).2.2
theorem sum_once{ids:List Id2}(hn:ids.Nodup)(x:Id2):(ids.filter fun i=>decide (x=i)).length<=1:=by
 induction ids with
 |nil=>simp
 |cons a l ih=>
  have h:=List.nodup_cons.1 hn;have:=ih h.2;by_cases e:x=a
  ·subst e;have z:(l.filter fun i=>decide (x=i))=[]:=by
    rw[List.filter_eq_nil_iff];intro i hi h1;have:x=i:=by simpa using h1
    subst this;exact h.1 hi
   rw[List.filter_cons];simp[z]
  rw[List.filter_cons];simp[e];exact this
theorem group_sum{ids:List Id2}(hn:ids.Nodup)(cs:List C):(ids.map fun i=>(groupOf cs i).length).sum<=cs.length:=by
 induction cs with
 |nil=>
  have:(ids.map fun i=>(groupOf [] i).length)=ids.map fun _=>0:=by simp[groupOf]
  rw[this];clear this hn;induction ids with
  |nil=>simp
  |cons a l ih=>simpa using ih
 |cons c cs ih=>
  have h1:=sum_once hn (idC c);have key:∀ids:List Id2,(ids.map fun i=>(groupOf (c::cs) i).length).sum=(ids.map fun i=>(groupOf cs i).length).sum+(ids.filter fun i=>decide (idC c=i)).length:=by
   intro ids;induction ids with
   |nil=>simp
   |cons a l ih=>
    simp only[List.map_cons,List.sum_cons,ih,List.filter_cons];have:(groupOf (c::cs) a).length=(groupOf cs a).length+if idC c=a then 1 else 0:=by
     simp only[groupOf,List.length_map,List.filter_cons];by_cases e:idC c=a<;>simp[e]
    rw[this];by_cases e:idC c=a
    ·simp[e];omega
    simp[e];omega
  rw[key];simp only[List.length_cons];omega
theorem totalR_sum{p:List E}{f:Nat->Nat}:∀(n:Nat),p.length=n->(∀i,i<n->(p.getD i E.zero).rules.length<=f i)->totalR p<=((List.range n).map f).sum:=by
 intro n;induction n generalizing p f with
 |zero=>intro h _;cases p with
  |nil=>simp[totalR]
  |cons a p=>simp at h
 |succ n ih=>
  intro h h1
  cases p with
  |nil=>simp at h
  |cons a p=>
   have h0:=h1 0 (by omega);have:=ih (p:=p) (f:=fun i=>f (i+1)) (by simpa using h) (fun i hi=>by have:=h1 (i+1) (by omega);simpa using this);rw[List.range_succ_eq_map];simp only[totalR,List.map_cons,List.map_map,List.sum_cons];simp at h0;have e:((List.range n).map (f∘Nat.succ)).sum=((List.range n).map fun i=>f (i+1)).sum:=rfl;rw[e];omega
structure LearnFacts(cs:List C)(out:List E):Prop where
 valid:validP out=true
 ok:okP out
 yes:∀c∈cs,allowsP out c=true
 span:∀c:C,okLa c.args->allowsP out c=true->groupOf cs (idC c)≠[]∧∀i,i<6->SpanN (colN (groupOf cs (idC c)) i) (argN c.args i)
theorem IsLearn.facts {cs : List C} {ex sp f : Int} {out : List E} (hc : ∀ c ∈ cs, okCall c) (hn : cs.length <= 1000) (hx : ex <= 200) (hsp : sp <= 200) (hf : 0 <= f ∧ f <= 2) (h : IsLearn cs ex sp f out) : LearnFacts cs out := by
  obtain ⟨ids, h1, h2, h3⟩ := h
  have hne : ∀ i, i < ids.length -> groupOf cs (ids.getD i (0, 0)) ≠ [] := by
    intro i hi e
    have hm : ids.getD i (0, 0) ∈ ids := by rw [List.getD_eq_getElem?_getD, List.getElem?_eq_getElem hi]; exact List.getElem_mem hi
    have := (h1.2 _).1 hm
    simp only [List.mem_map] at this
    obtain ⟨c, hc', e'⟩ := this
    have : c.args ∈ groupOf cs (ids.getD i (0, 0)) := by
      simp only [groupOf, List.mem_map, List.mem_filter]
      exact ⟨c, ⟨hc', by simpa using e'⟩, rfl⟩
    rw [e] at this; simp at this
  have rf : ∀ i, i < ids.length -> ∃ t, DistG ordL (groupOf cs (ids.getD i (0, 0))) t ∧ RulesFacts t (out.getD i E.zero).rules := by
    intro i hi
    obtain ⟨_, t, b, c⟩ := h3 i hi
    have ht : ∀ a ∈ t, okLa a := fun a ha => group_ok hc _ a ((b.2 a).1 ha)
    refine ⟨t, b, c.facts ht (fun e => ?_) hx hsp hf⟩
    cases g : groupOf cs (ids.getD i (0, 0)) with
    | nil => exact hne i hi g
    | cons a r =>
      have := (b.2 a).2 (by rw [g]; simp)
      rw [e] at this; simp at this
  have ide : ∀ i, i < ids.length -> ids.getD i (0, 0) ∈ cs.map idC := fun i hi => (h1.2 _).1 (by rw [List.getD_eq_getElem?_getD, List.getElem?_eq_getElem hi]; exact List.getElem_mem hi)
  have hnd := ascG_nodup linP h1.1
  have vo : validP out = true := by
    rw [validP_yes]
    · rw [decide_eq_true_eq]
      refine Nat.le_trans (totalR_sum (f := fun i => (groupOf cs (ids.getD i (0, 0))).length) ids.length h2 (fun i hi => ?_)) ?_
      · obtain ⟨t, b, r⟩ := rf i hi
        exact Nat.le_trans r.len (nodup_len (ascG_nodup linL b.1) fun c hc => (b.2 c).1 hc)
      · have e : ((List.range ids.length).map fun i => (groupOf cs (ids.getD i (0, 0))).length) = ids.map fun i => (groupOf cs i).length := by
          apply List.ext_getElem
          · simp
          · intro i a b
            simp at a
            simp [List.getD_eq_getElem?_getD, List.getElem?_eq_getElem a]
        rw [e]
        exact Nat.le_trans (group_sum hnd cs) hn
    · intro i hi
      rw [h2] at hi
      obtain ⟨t, b, r⟩ := rf i hi
      rw [stepOk, Bool.and_eq_true, Bool.or_eq_true]
      constructor
      · by_cases h0 : i = 0
        · left; simp [h0]
        · right
          have hp := h1.1
          unfold AscG at hp
          rw [List.pairwise_iff_getElem] at hp
          have := hp (i - 1) i (by omega) hi (by omega)
          have e1 := (h3 i hi).1
          have e2 := (h3 (i - 1) (by omega)).1
          rw [List.getD_eq_getElem?_getD (l := ids), List.getElem?_eq_getElem hi] at e1
          rw [List.getD_eq_getElem?_getD (l := ids), List.getElem?_eq_getElem (by omega)] at e2
          simp only [Option.getD_some] at e1 e2
          rw [<- e1, <- e2] at this
          simp only [ordP, thenO] at this
          unfold befE
          rw [Bool.or_eq_true, Bool.and_eq_true, decide_eq_true_eq, beq_iff_eq, decide_eq_true_eq]
          split at this
          · rename_i g
            right
            exact ⟨ordI_zero g, ordI_lt.1 this⟩
          · left; exact ordI_lt.1 this
      · refine validE_mk ?_ r.l200 (fun x hx => (r.nr x hx).vr.valid)
        cases e : (out.getD i E.zero).rules with
        | nil => exact absurd e r.ne
        | cons a t => simp
  refine ⟨vo, ?_, ?_, ?_⟩
  · intro e he
    obtain ⟨i, hi, rfl⟩ := List.getElem_of_mem he
    have hi' : i < ids.length := by rw [<- h2]; exact hi
    have e1 : out.getD i E.zero = out[i] := by rw [List.getD_eq_getElem?_getD, List.getElem?_eq_getElem hi]; rfl
    rw [<- e1]
    obtain ⟨t, b, r⟩ := rf i hi'
    have e2 := (h3 i hi').1
    have := ide i hi'
    simp only [List.mem_map] at this
    obtain ⟨c, hc', e3⟩ := this
    rw [<- e3] at e2
    simp only [idC, Prod.mk.injEq] at e2
    have o := hc c hc'
    exact ⟨by rw [e2.1]; exact o.1, by rw [e2.2]; exact o.2.1, fun r' hr => (r.nr r' hr).vr.okR⟩
  · intro c hc'
    have hid : idC c ∈ ids := (h1.2 _).2 (List.mem_map.2 ⟨c, hc', rfl⟩)
    obtain ⟨i, hi, e⟩ := List.getElem_of_mem hid
    have e' : ids.getD i (0, 0) = idC c := by rw [List.getD_eq_getElem?_getD, List.getElem?_eq_getElem hi]; exact e
    obtain ⟨t, b, r⟩ := rf i hi
    have e2 := (h3 i hi).1
    rw [e'] at e2 b
    simp only [idC, Prod.mk.injEq] at e2
    rw [allowsP, vo, Bool.true_and, Bool.and_eq_true, beq_iff_eq, any_getD E.zero]
    refine ⟨(hc c hc').2.2.1, i, by rw [h2]; exact hi, ?_⟩
    rw [Bool.and_eq_true]
    refine ⟨by simp only [meets, Bool.and_eq_true, beq_iff_eq]; exact e2, (anyRule_iff _ _).2 (r.yes c.args ((b.2 _).2 ?_))⟩
    simp only [groupOf, List.mem_map, List.mem_filter]
    exact ⟨c, ⟨hc', by simp⟩, rfl⟩
  · intro c ho ha
    rw [allowsP, Bool.and_eq_true, any_getD E.zero] at ha
    obtain ⟨i, hi, h⟩ := ha.2
    rw [h2] at hi
    rw [Bool.and_eq_true, anyRule_iff] at h
    obtain ⟨t, b, r⟩ := rf i hi
    have e2 := (h3 i hi).1
    have hm : ids.getD i (0, 0) = idC c := by
      rw [<- e2]
      have := h.1
      simp only [meets, Bool.and_eq_true, beq_iff_eq] at this
      rw [idC, this.1, this.2]
    have hn := hne i hi
    rw [hm] at b hn
    refine ⟨hn, fun k hk => (r.span (argN c.args) (fun i => (ho.lt i).1) h.2 k hk).sub (colN_sub (fun a ha => (b.2 a).1 ha) k)⟩
def CandI(out:List Int)(c:Int):Prop:=∀o∈out,ordI o c<0
def BestI(l out:List Int)(k:Nat)(best:Int):Prop:=
 (best= -1∧∀i,i<k->¬CandI out (l.getD i 0))∨∃b:Nat,b<k∧best=b∧CandI out (l.getD b 0)∧∀i,i<k->CandI out (l.getD i 0)->l.getD b 0<=l.getD i 0
theorem BestI.zero(l out:List Int):BestI l out 0 (-1):=.inl ⟨rfl,fun i hi=>by omega⟩
theorem BestI.skip{l out:List Int}{k:Nat}{best:Int}(h:BestI l out k best)(hc:¬CandI out (l.getD k 0)):BestI l out (k+1) best:=by
 rcases h with⟨h1,h2⟩|⟨b,h1,h2,h3,h4⟩
 ·refine .inl ⟨h1,fun i hi=> ?_⟩;by_cases e:i=k
  ·rw[e];exact hc
  exact h2 i (by omega)
 refine .inr ⟨b,by omega,h2,h3,fun i hi hi2=> ?_⟩;by_cases e:i=k
 ·rw[e]at hi2;exact absurd hi2 hc
 exact h4 i (by omega) hi2
theorem BestI.first{l out:List Int}{k:Nat}(h:BestI l out k (-1))(hc:CandI out (l.getD k 0)):BestI l out (k+1) k:=by
 rcases h with⟨h1,h2⟩|⟨b,h1,h2,h3,h4⟩
 ·refine .inr ⟨k,by omega,rfl,hc,fun i hi hi2=> ?_⟩;by_cases e:i=k
  ·rw[e];exact Int.le_refl _
  exact absurd hi2 (h2 i (by omega))
 omega
theorem BestI.less{l out:List Int}{k b:Nat}(h:BestI l out k b)(hc:CandI out (l.getD k 0))(ho:l.getD k 0<l.getD b 0):BestI l out (k+1) k:=by
 rcases h with⟨h1,h2⟩|⟨b',h1,h2,h3,h4⟩
 ·omega
 have:b=b':=by omega
 subst this;refine .inr ⟨k,by omega,rfl,hc,fun i hi hi2=> ?_⟩;by_cases e:i=k
 ·rw[e];exact Int.le_refl _
 have:=h4 i (by omega) hi2;omega
theorem BestI.same{l out:List Int}{k b:Nat}(h:BestI l out k b)(ho:¬l.getD k 0<l.getD b 0):BestI l out (k+1) b:=by
 rcases h with⟨h1,h2⟩|⟨b',h1,h2,h3,h4⟩
 ·omega
 have:b=b':=by omega
 subst this;refine .inr ⟨b,by omega,rfl,h3,fun i hi hi2=> ?_⟩;by_cases e:i=k
 ·rw[e];omega
 exact h4 i (by omega) hi2
theorem BestI.cases{l out:List Int}{k:Nat}{best:Int}(h:BestI l out k best):best= -1∨∃b:Nat,best=b∧b<k:=by
 rcases h with⟨h1,h2⟩|⟨b',h1,h2,h3,h4⟩
 ·exact .inl h1
 exact .inr ⟨b',h2,h1⟩
theorem getD_memI{l:List Int}{i:Nat}(h:i<l.length):l.getD i 0∈l:=by
 rw[List.getD_eq_getElem?_getD,List.getElem?_eq_getElem h];exact List.getElem_mem h
theorem mem_getDI{l:List Int}{c:Int}(h:c∈l):∃i,i<l.length∧l.getD i 0=c:=by
 obtain⟨i,hi,rfl⟩:=List.getElem_of_mem h;exact⟨i,hi,by rw[List.getD_eq_getElem?_getD,List.getElem?_eq_getElem hi];rfl⟩
theorem BestI.done{l out:List Int}(h:BestI l out l.length (-1))(hs:SelG ordI l out):DistG ordI l out:=by
 rcases h with⟨h1,h2⟩|⟨b',h1,h2,h3,h4⟩
 ·refine hs.done fun c hc=> ?_
  obtain⟨i,hi,rfl⟩:=mem_getDI hc;exact h2 i hi
 omega
theorem BestI.next{l out:List Int}{b:Nat}(h:BestI l out l.length b)(hs:SelG ordI l out):SelG ordI l (out++[l.getD b 0]):=by
 rcases h with⟨h1,h2⟩|⟨b',h1,h2,h3,h4⟩
 ·omega
 have:b=b':=by omega
 subst this;refine hs.next linI (getD_memI h1) h3 fun c hc hc2=> ?_
 obtain⟨i,hi,rfl⟩:=mem_getDI hc;have:=h4 i hi hc2;have:=ordI_bd (l.getD b 0) (l.getD i 0);have:= @ordI_lt (l.getD i 0) (l.getD b 0);have:=ordI_anti (l.getD b 0) (l.getD i 0);omega
theorem candI_nil(c:Int):CandI [] c:=by intro o ho;simp at ho
theorem candI_snoc{t:List Int}{z c:Int}(h:AscG ordI (t++[z])):CandI (t++[z]) c↔z<c:=by
 unfold CandI;rw[asc_last (z:=z) linI h (by simp)];exact ordI_lt
def pickL(t:List La)(j:Nat)(x:Int)(v:Int):List Int:=(t.filter fun a=>decide (x<0)||a.getD x.toNat 0==v).map fun a=>a.getD j 0
theorem pickL_yes{t:List La}{a:La}(j:Nat){x v:Int}(h:x<0∨a.getD x.toNat 0=v):pickL (t++[a]) j x v=pickL t j x v++[a.getD j 0]:=by
 unfold pickL;rw[List.filter_append,List.map_append];have:(decide (x<0)||a.getD x.toNat 0==v)=true:=by
  rcases h with h|h
  ·rw[decide_eq_true h];rfl
  rw[h,beq_self_eq_true,Bool.or_true]
 rw[List.filter_cons_of_pos (p:=fun a:La=>decide (x<0)||a.getD x.toNat 0==v) this];rfl
theorem pickL_no{t:List La}{a:La}(j:Nat){x v:Int}(h:¬x<0)(h':a.getD x.toNat 0≠v):pickL (t++[a]) j x v=pickL t j x v:=by
 unfold pickL;rw[List.filter_append,List.map_append];have:¬(decide (x<0)||a.getD x.toNat 0==v)=true:=by
  rw[decide_eq_false h,Bool.false_or,beq_iff_eq];exact h'
 rw[List.filter_cons_of_neg (p:=fun a:La=>decide (x<0)||a.getD x.toNat 0==v) this,List.filter_nil,List.map_nil,List.append_nil]
theorem pickL_all(t:List La)(j:Nat){x v:Int}(h:x<0):pickL t j x v=t.map fun a=>a.getD j 0:=by
 unfold pickL;rw[List.filter_eq_self.2 (fun a _=>by simp[h])]
theorem pickL_with(t:List La)(j k:Nat)(v:Int):pickL t j (k:Int) v=(withV t k v).map fun a=>a.getD j 0:=by
 unfold pickL withV;have:(fun a:La=>decide ((k:Int)<0)||a.getD (k:Int).toNat 0==v)=fun a=>a.getD k 0==v:=funext fun a=>by
  rw[decide_eq_false (by omega),Bool.false_or,Int.toNat_natCast]
 rw[this]
theorem pickL_len(t:List La)(j:Nat)(x v:Int):(pickL t j x v).length<=t.length:=by
 unfold pickL;rw[List.length_map];exact List.length_filter_le _ _
end Go.Proofs.YtddemlfepjkgoaaGreat
