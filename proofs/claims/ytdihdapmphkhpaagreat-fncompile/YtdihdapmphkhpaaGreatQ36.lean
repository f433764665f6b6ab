import Derived.Test.YtdihdapmphkhpaaGreatQ35
set_option linter.all false
set_option maxRecDepth 200000
set_option maxHeartbeats 16000000
namespace Go.Proofs.YtdihdapmphkhpaaGreat
variable{V a ar fail nr:Int}{args r:List Int}{c:C}{es:List E}{ks:List K}{out:List I}{σ σ':List I×Mk}
structure tv(r:List Int)(ar nr:Int)(A:Nat->Nat):Prop where
 w0:jJ r 0=nr
 w4:jJ r 4=ar
 lo:∀i,i<6->jJ r (16+8*i)=((A i%4294967296:Nat):Int)
 hi:∀i,i<6->jJ r (16+8*i+4)=((A i/4294967296:Nat):Int)
 lt:∀i,A i<18446744073709551616
theorem lu(A k:Int):ij ((21:Int)/16) A k=(A==k):=by rw[show(21:Int)/16=1 by decide];simp[ij]
theorem s7(A k:Int):ij ((37:Int)/16) A k=decide (k<A):=by rw[show(37:Int)/16=2 by decide];simp[ij]
theorem xH(A k:Int):ij ((53:Int)/16) A k=decide (k<=A):=by rw[show(53:Int)/16=3 by decide];simp[ij]
theorem oN:isT 21:=.inl rfl
theorem xr:isT 37:=.inr (.inl rfl)
theorem C8:isT 53:=.inr (.inr rfl)
theorem zp{w m b:Nat}(h:foI (ig a m b fail) σ=some σ')(hw:jJ r a.toNat=(w:Int))(hww:w<4294967296)(hm:m<4294967296)(h0:m=0->b=0)
 (h1:w&&&m=b->Beh r σ jM V)(h2:w&&&m≠b->Lab r σ fail jM V):Beh r σ' jM V:=by
 unfold ig at h;by_cases hz:m=0
 ·rw[if_pos (by omega)]at h;rw[ku h];exact h1 (by rw[h0 hz,hz,Nat.and_zero])
 rw[if_neg (by omega)]at h;obtain⟨τ,g1,g2⟩:=gR h;refine rj g2 _ ?_;rw[hw];by_cases hf:m=4294967295
 ·rw[if_pos (by omega)]at g1;have e:w&&&m=w:=by rw[hf];exact Nat.and_two_pow_sub_one_of_lt_two_pow (n:=32) hww
  rw[e]at h1 h2;refine qX (iX g1) oN (fun hh=> ?_) (fun hh=> ?_)
  ·rw[lu]at hh;exact(h2 (by simp at hh;omega)).any _
  rw[lu]at hh;exact(h1 (by simp at hh;omega)).any _
 rw[if_neg (by omega)]at g1;obtain⟨τ2,k1,k2⟩:=gR g1;refine Ih k2 ?_;rw[Ak 32 w m hww hm];refine qX (iX k1) oN (fun hh=> ?_) (fun hh=> ?_)
 ·rw[lu]at hh;exact(h2 (by simp at hh;omega)).any _
 rw[lu]at hh;exact(h1 (by simp at hh;omega)).any _
theorem Hj{t:Int}{v x:Nat}(h:foI (td v a fail t) σ=some σ')(hl:jJ r a.toNat=((x%4294967296:Nat):Int))(hh:jJ r (a+4).toNat=((x/4294967296:Nat):Int))
 (h1:v<=x->Beh r σ jM V)(h2:¬v<=x->Lab r σ fail jM V):Beh r σ' jM V:=by
 unfold td at h;obtain⟨τ0,g0,g⟩:=iJ h;obtain⟨τ4,g,k5⟩:=gR g;obtain⟨τ3,g,k4⟩:=gR g;obtain⟨τ2,g,k3⟩:=gR g;obtain⟨τ1,g,k2⟩:=gR g;have k1:=iX g;have kb:=iX g0;have LF:¬v<=x->Lab r τ0 fail jM V:=fun hv=>(h2 hv).more kb
 have LB:v<=x->Lab r τ0 t jM V∧Beh r τ0 jM V:=fun hv=>sk kb (h1 hv)
 have ev:v=v/4294967296*4294967296+v%4294967296:=by omega
 have ex:x=x/4294967296*4294967296+x%4294967296:=by omega
 have hvl:v%4294967296<4294967296:=by omega
 have hxl:x%4294967296<4294967296:=by omega
 refine rj k5 _ ?_;rw[hh];refine yw k4 xr (fun t1=> ?_) (fun t1=> ?_)
 ·rw[s7]at t1;replace t1:=of_decide_eq_true t1;unfold upH at t1;exact((((LB (by omega)).1.any _).more k1).more k2).more k3
 rw[s7]at t1;replace t1:=of_decide_eq_false t1;unfold upH at t1;refine qX k3 oN (fun t2=> ?_) (fun t2=> ?_)
 ·rw[lu]at t2;replace t2:=beq_eq_false_iff_ne.1 t2;unfold upH at t2;exact(((LF (by omega)).any _).more k1).more k2
 rw[lu]at t2;replace t2:=beq_iff_eq.1 t2;unfold upH at t2;refine rj k2 _ ?_;rw[hl];refine qX k1 C8 (fun t3=> ?_) (fun t3=> ?_)
 ·rw[xH]at t3;replace t3:=of_decide_eq_false t3;unfold loH at t3;exact(LF (by omega)).any _
 rw[xH]at t3;replace t3:=of_decide_eq_true t3;unfold loH at t3;exact(LB (by omega)).2.any _
theorem F7{t:Int}{v x:Nat}(h:foI (nf v a fail t) σ=some σ')(hl:jJ r a.toNat=((x%4294967296:Nat):Int))(hh:jJ r (a+4).toNat=((x/4294967296:Nat):Int))
 (h1:x<=v->Beh r σ jM V)(h2:¬x<=v->Lab r σ fail jM V):Beh r σ' jM V:=by
 unfold nf at h;obtain⟨τ0,g0,g⟩:=iJ h;obtain⟨τ4,g,k5⟩:=gR g;obtain⟨τ3,g,k4⟩:=gR g;obtain⟨τ2,g,k3⟩:=gR g;obtain⟨τ1,g,k2⟩:=gR g;have k1:=iX g;have kb:=iX g0;have LF:¬x<=v->Lab r τ0 fail jM V:=fun hv=>(h2 hv).more kb
 have LB:x<=v->Lab r τ0 t jM V∧Beh r τ0 jM V:=fun hv=>sk kb (h1 hv)
 have ev:v=v/4294967296*4294967296+v%4294967296:=by omega
 have ex:x=x/4294967296*4294967296+x%4294967296:=by omega
 have hvl:v%4294967296<4294967296:=by omega
 have hxl:x%4294967296<4294967296:=by omega
 refine rj k5 _ ?_;rw[hh];refine yw k4 xr (fun t1=> ?_) (fun t1=> ?_)
 ·rw[s7]at t1;replace t1:=of_decide_eq_true t1;unfold upH at t1;exact((((LF (by omega)).any _).more k1).more k2).more k3
 rw[s7]at t1;replace t1:=of_decide_eq_false t1;unfold upH at t1;refine qX k3 oN (fun t2=> ?_) (fun t2=> ?_)
 ·rw[lu]at t2;replace t2:=beq_eq_false_iff_ne.1 t2;unfold upH at t2;exact(((LB (by omega)).1.any _).more k1).more k2
 rw[lu]at t2;replace t2:=beq_iff_eq.1 t2;unfold upH at t2;refine rj k2 _ ?_;rw[hl];refine yw k1 xr (fun t3=> ?_) (fun t3=> ?_)
 ·rw[s7]at t3;replace t3:=of_decide_eq_true t3;unfold loH at t3;exact(LF (by omega)).any _
 rw[s7]at t3;replace t3:=of_decide_eq_false t3;unfold loH at t3;exact(LB (by omega)).2.any _
theorem BL(x a:Nat):(x&&&a)/4294967296=x/4294967296&&&a/4294967296∧(x&&&a)%4294967296=x%4294967296&&&a%4294967296:=by
 refine⟨?_,dW (n:=32)⟩;have:=Nat.shiftRight_and_distrib (a:=x) (b:=a) (i:=32);simpa[Nat.shiftRight_eq_div_pow]using this
theorem Ef(x a:Nat):(x|||a)/4294967296=x/4294967296|||a/4294967296∧(x|||a)%4294967296=x%4294967296|||a%4294967296:=by
 refine⟨?_,Nat.or_mod_two_pow (n:=32)⟩;have:=Nat.shiftRight_or_distrib (a:=x) (b:=a) (i:=32);simpa[Nat.shiftRight_eq_div_pow]using this
theorem Gc(x a b:Nat):x&&&a=b↔(x/4294967296&&&a/4294967296=b/4294967296∧x%4294967296&&&a%4294967296=b%4294967296):=by
 obtain⟨h1,h2⟩:=BL x a;rw[<-h1,<-h2];omega
theorem rZ{a b:Nat}(h:a|||b=a)(ha:a=0):b=0:=by subst ha;rw[Nat.zero_or]at h;exact h
theorem H5{p1 p2:Int}{A:Nat->Nat}(R:tv r ar nr A){c:K}(ho:c.ok)(hv:eI c=true){i:Nat}(hi:i<6)(h:foI (gO c (16+8*(i:Int)) fail p1 p2) σ=some σ')
 (h1:eX c (A i)=true->Beh r σ jM V)(h2:eX c (A i)=false->Lab r σ fail jM V):Beh r σ' jM V:=by
 have hlt:=R.lt i;have hlo:jJ r (16+8*(i:Int)).toNat=((A i%4294967296:Nat):Int):=by rw[<-R.lo i hi];congr 1
 have hhi:jJ r (16+8*(i:Int)+4).toNat=((A i/4294967296:Nat):Int):=by rw[<-R.hi i hi];congr 1
 obtain⟨_,hca,hcb⟩:=ho;unfold gO at h;unfold eX at h1 h2;by_cases k1:c.kind=1
 ·rw[if_pos k1]at h h1 h2;have hor:c.a|||c.b=c.a:=by
   unfold eI at hv;simp[k1]at hv;exact hv
  obtain⟨o1,o2⟩:=Ef c.a c.b;rw[hor]at o1 o2;have hm:=Gc (A i) c.a c.b;simp only[beq_iff_eq,beq_eq_false_iff_ne]at h1 h2;obtain⟨τ,g1,g2⟩:=iJ h;refine zp (m:=c.a/4294967296) (b:=c.b/4294967296) g2 hhi (by omega) (by omega) (fun e=>rZ o1.symm e) (fun e1=> ?_) (fun e1=>(h2 (fun e=>e1 (hm.1 e).1)).rH g1);exact zp (m:=c.a%4294967296) (b:=c.b%4294967296) g1 hlo (by omega) (by omega) (fun e=>rZ o2.symm e) (fun e2=>h1 (hm.2 ⟨e1,e2⟩)) (fun e2=>h2 (fun e=>e2 (hm.1 e).2))
 rw[if_neg k1]at h h1 h2;by_cases k2:c.kind=2
 ·rw[if_pos k2]at h h1 h2;simp only[aL,decide_eq_true_eq,Bool.and_eq_false_iff,decide_eq_false_iff_not]at h1 h2;obtain⟨τ,g1,g2⟩:=iJ h;have B1:c.a<=A i->Beh r τ jM V:=fun e1=>by
   unfold jy at g1;by_cases hm:c.b=18446744073709551615
   ·rw[if_pos hm]at g1;rw[ku g1];exact h1 ⟨e1,by omega⟩
   rw[if_neg hm]at g1;exact F7 g1 hlo hhi (fun e2=>h1 ⟨e1,e2⟩) (fun e2=>h2 (.inr e2))
  unfold ly at g2;by_cases hz:c.a=0
  ·rw[if_pos hz]at g2;rw[ku g2];exact B1 (by omega)
  rw[if_neg hz]at g2;exact Hj g2 hlo hhi B1 (fun e1=>(h2 (.inl e1)).rH g1)
 rw[if_neg k2]at h h1;rw[ku h];exact h1 rfl
def oO(A:Nat->Nat):List K->Nat->Bool
 |[],_=>true
 |c::r,i=>eX c (A i)&&oO A r (i+1)
theorem FW{A:Nat->Nat}(R:tv r ar nr A)(ks:List K):∀(i:Nat)(n:Int),i+ks.length<=6->(∀c∈ks,c.ok∧eI c=true)->∀{σ σ':List I×Mk},foI (ja ks (i:Int) fail n) σ=some σ'->
 (oO A ks i=true->Beh r σ jM V)->(oO A ks i=false->Lab r σ fail jM V)->Beh r σ' jM V:=by
 induction ks with
 |nil=>intro i n _ _ σ σ' h h1 h2;rw[ku h];exact h1 rfl
 |cons c ks ih=>
  intro i n hl hk σ σ' h h1 h2;simp only[aq]at hl;obtain⟨τ,g1,g2⟩:=iJ h;have hc:=hk c (aY ..);refine H5 R hc.1 hc.2 (by omega) g2 (fun e=> ?_) (fun e=>(h2 (by simp[oO,e])).rH g1);have g1':foI (ja ks ((i+1:Nat):Int) fail (jZ c n)) σ=some τ:=by rw[<-g1];congr 1
  exact ih (i+1) _ (by omega) (fun c' h'=>hk c' (bo _ h')) g1' (fun e'=>h1 (by simp[oO,e,e'])) (fun e'=>h2 (by simp[oO,e,e']))
theorem tu(h6:ks.length=6)(args:List Int):oO (fun i=>(args.getD i 0).toNat) ks 0=eO ks args:=by
 match ks,h6 with
 |[a,b,c,d,e,f],_=>simp[oO,eO,List.range,List.range.loop]
theorem Ai{n:Int}(R:tv r ar nr (fun i=>(args.getD i 0).toNat))(ho:okR ks)(hv:eG ks=true)(h:foI (jN ks fail n) σ=some σ')
 (h1:eO ks args=true->V=2147418112)(h2:eO ks args=false->Lab r σ fail jM V):Beh r σ' jM V:=by
 obtain⟨τ,g1,g2⟩:=iJ h;have h6:ks.length=6:=by unfold eG at hv;simp at hv;exact hv.1
 have hall:∀c∈ks,c.ok∧eI c=true:=fun c hc=>⟨ho c hc,by unfold eG at hv;simp at hv;exact hv.2 c hc⟩
 refine FW R ks 0 n (by omega) hall g2 (fun e=> ?_) (fun e=>(h2 (by rw[<-tu h6];exact e)).rH g1);rw[h1 (by rw[<-tu h6];exact e)];exact Dk (iX g1) _
theorem Gn(R:tv r ar nr (fun i=>(args.getD i 0).toNat))(rs:List (List K)):∀(n:Int),rs≠[]->(∀ks∈rs,okR ks∧eG ks=true)->∀{σ σ':List I×Mk},foI (jw rs n) σ=some σ'->
 ((rs.any fun ks=>eO ks args)=true->V=2147418112)->((rs.any fun ks=>eO ks args)=false->Lab r σ 0 jM V)->Beh r σ' jM V:=by
 induction rs with
 |nil=>intro n h;exact absurd rfl h
 |cons ks rs ih=>
  intro n _ hv σ σ' h h1 h2;have hk:=hv ks (aY ..)
  cases rs with
  |nil=>exact Ai R hk.1 hk.2 h (fun e=>h1 (by simp[e])) (fun e=>h2 (by simp[e]))
  |cons q rs=>
   obtain⟨τ1,g1,g⟩:=iJ h;obtain⟨τ2,g2,g3⟩:=iJ g;refine Ai R hk.1 hk.2 g3 (fun e=>h1 (by simp[e])) (fun e=> ?_);have B:=ih (fR ks (n+1)) (by simp) (fun k' h'=>hv k' (bo _ h')) g1 (fun e'=>h1 (by rw[List.any_cons,e',Bool.or_true])) (fun e'=>h2 (by rw[List.any_cons,e,e',Bool.false_or]));exact(sk (iX g2) B).1
def anyR(e:E)(args:List Int):Bool:=e.rules.any fun ks=>eO ks args
def sf(es:List E)(nr:Int)(args:List Int):Bool:=es.any fun e=>e.nr==nr&&anyR e args
def Ax(e:E):Prop:=e.rules≠[]∧∀ks∈e.rules,okR ks∧eG ks=true
theorem wX(h:∀e∈es,e.nr≠nr):sf es nr args=false:=by
 unfold sf;rw[List.any_eq_false];intro e he;have:=h e he;simp[this]
theorem GN(R:tv r ar nr (fun i=>(args.getD i 0).toNat))(k:Nat):∀(es:List E)(n:Int),es≠[]->es.length<=k->es.Pairwise (fun a b=>a.nr<b.nr)->(∀e∈es,Ax e)->∀{σ σ':List I×Mk},foI (fV k es n) σ=some σ'->
 (sf es nr args=true->V=2147418112)->(sf es nr args=false->Lab r σ 0 jM V)->Beh r σ' (fun s=>s.a=nr) V:=by
 induction k with
 |zero=>
  intro es n hne hl;exact absurd (aM (by omega)) hne
 |succ k ih=>
  intro es n hne hl hp hw σ σ' h h1 h2;simp only[fV]at h;by_cases hs:es.length<=1
  ·rw[if_pos hs]at h;obtain⟨e,rfl⟩:∃e,es=[e]:=by
    match es,hne,hs with
    |[e],_,_=>exact⟨e,rfl⟩
    |_::_::_,_,hs=>simp at hs
   simp only[dF]at h;have he:=hw e (List.mem_singleton_self e);obtain⟨τ,g1,g2⟩:=gR h;have ea:sf [e] nr args=(e.nr==nr&&anyR e args):=by simp[sf]
   rw[ea]at h1 h2;refine qX g2 oN (fun t1=> ?_) (fun t1=> ?_)
   ·rw[lu]at t1;replace t1:=beq_eq_false_iff_ne.1 t1;have:(e.nr==nr)=false:=by rw[beq_eq_false_iff_ne];exact fun e'=>t1 e'.symm
    exact((h2 (by rw[this,Bool.false_and])).rH g1).any _
   rw[lu]at t1;replace t1:=beq_iff_eq.1 t1;have:(e.nr==nr)=true:=by rw[beq_iff_eq];exact t1.symm
   rw[this,Bool.true_and]at h1 h2;exact(Gn R e.rules n he.1 he.2 g1 h1 h2).any _
  rw[if_neg hs]at h;obtain⟨τ1,g1,g⟩:=iJ h;obtain⟨τ2,g2,g⟩:=iJ g;obtain⟨τ3,g3,g4⟩:=gR g;have hsplit:es.take (es.length/2)++es.drop (es.length/2)=es:=List.take_append_drop _ _;have hh:es.length/2<es.length:=by omega
  have hmid:es.getD (es.length/2) E.zero∈es.drop (es.length/2):=by
   rw[cw hh,aa,ag hh];exact aY ..
  have hrest:∀e∈es.drop (es.length/2),(es.getD (es.length/2) E.zero).nr<=e.nr:=by
   have hp2:=hp.sublist (List.drop_sublist (es.length/2) es);rw[cw hh]at hp2⊢;rw[aa,ag hh];intro e he;rcases bF.1 he with rfl|he
   ·exact ba _
   exact Int.le_of_lt ((dh.1 hp2).1 e he)
  have hp':=hp;rw[<-hsplit,cW]at hp';obtain⟨pl,pr,plr⟩:=hp';have hany:sf es nr args=(sf (es.take (es.length/2)) nr args||sf (es.drop (es.length/2)) nr args):=by
   unfold sf;rw[<-List.any_append,hsplit]
  have hwl:∀e∈es.take (es.length/2),Ax e:=fun e he=>hw e (aB he)
  have hwr:∀e∈es.drop (es.length/2),Ax e:=fun e he=>hw e (aQ he)
  have nel:es.take (es.length/2)≠[]:=fun e=>by have:=congrArg List.length e;rw[bN,aU]at this;omega
  have ner:es.drop (es.length/2)≠[]:=fun e=>by have:=congrArg List.length e;rw[bK,aU]at this;omega
  have lel:(es.take (es.length/2)).length<=k:=by simp;omega
  have ler:(es.drop (es.length/2)).length<=k:=by simp;omega
  generalize es.take (es.length/2)=left at*;generalize es.drop (es.length/2)=right at*;generalize es.getD (es.length/2) E.zero=mid at*;refine yw g4 C8 (fun t1=> ?_) (fun t1=> ?_)
  ·rw[xH]at t1;replace t1:=of_decide_eq_true t1;have e0:sf left nr args=false:=wX fun e he=>by have:=plr e he mid hmid;omega
   rw[e0,Bool.false_or]at hany;rw[hany]at h1 h2;have B:=ih right _ ner ler pr hwr g1 h1 h2;exact(sk (iX g2) B).1.rH g3
  rw[xH]at t1;replace t1:=of_decide_eq_false t1;have e0:sf right nr args=false:=wX fun e he=>by have:=hrest e he;omega
  rw[e0,Bool.or_false]at hany;rw[hany]at h1 h2;exact ih left _ nel lel pl hwl g3 h1 (fun e=>((h2 e).rH g1).more (iX g2))
def ov(c:C)(e:E):Bool:=meets e c&&anyR e c.args
theorem any_none{f:E->Bool}(h:∀e∈es,f e=false):es.any f=false:=by
 rw[List.any_eq_false];intro e he;rw[h e he];decide
theorem vG(a b:E):jG a b=true↔(a.et<b.et∨(a.et=b.et∧a.nr<b.nr)):=by
 unfold jG;simp
theorem zQ(hne:es≠[])(hp:es.Pairwise (fun a b=>jG a b=true)):es.take (ew es)≠[]∧(∀e∈es.take (ew es),e.et=(es.getD 0 E.zero).et)∧(∀e∈es.drop (ew es),(es.getD 0 E.zero).et<e.et):=by
 match es,hne with
 |x::es,_=>
  have e1:ew (x::es)=(es.takeWhile (fun y=>y.et==x.et)).length+1:=by simp only[ew];omega
  have e2:(x::es).take (ew (x::es))=x::es.takeWhile (fun y=>y.et==x.et):=by
   rw[e1,List.take_succ_cons];congr 1;exact(List.prefix_iff_eq_take.1 (List.takeWhile_prefix _)).symm
  have e3:(x::es).drop (ew (x::es))=es.dropWhile (fun y=>y.et==x.et):=by
   rw[e1,List.drop_succ_cons];have h:=List.takeWhile_append_dropWhile (p:=fun y:E=>y.et==x.et) (l:=es);have key:∀tw dw:List E,tw++dw=es->es.drop tw.length=dw:=fun tw dw h=>by rw[<-h,List.drop_left]
   exact key _ _ h
  rw[e2,e3];simp only[dF];obtain⟨p1,p2⟩:=dh.1 hp;refine⟨by simp,fun e he=> ?_,fun e he=> ?_⟩
  ·rcases bF.1 he with rfl|he
   ·rfl
   have:=bC.1 (List.all_takeWhile (p:=fun y:E=>y.et==x.et) (l:=es)) e he;simpa using this
  have hd:(es.dropWhile (fun y=>y.et==x.et)).Pairwise (fun a b=>jG a b=true):=p2.sublist (List.dropWhile_sublist _);have hx:∀e∈es.dropWhile (fun y=>y.et==x.et),jG x e=true:=fun e he=>p1 e ((List.dropWhile_sublist _).mem he)
  cases hq:es.dropWhile (fun y=>y.et==x.et)with
  |nil=>rw[hq]at he;simp at he
  |cons y ys=>
   have hy:(y.et==x.et)=false:=by
    have:=List.head_dropWhile_not (p:=fun y:E=>y.et==x.et) (l:=es) (by rw[hq];simp);simp only[hq,List.head_cons]at this;simpa using this
   rw[hq]at hd hx he;have hxy:=(vG x y).1 (hx y (aY ..));have hy':y.et≠x.et:=by simpa using hy
   have hlt:x.et<y.et:=by omega
   rcases bF.1 he with rfl|he
   ·exact hlt
   have:=(vG y e).1 ((dh.1 hd).1 e he);omega
theorem EA(hp:es.Pairwise (fun x y=>jG x y=true))(ha:∀e∈es,e.et=a):es.Pairwise (fun x y=>x.nr<y.nr):=by
 refine List.Pairwise.imp_of_mem (fun{x y}hx hy h=> ?_) hp;have:=(vG x y).1 h;rw[ha x hx,ha y hy]at this;omega
theorem Gi(R:tv r c.et c.nr (fun i=>(c.args.getD i 0).toNat))(k:Nat):∀(es:List E)(n:Int),es.length<=k->es.Pairwise (fun a b=>jG a b=true)->(∀e∈es,Ax e)->∀{σ σ':List I×Mk},foI (jO k es n) σ=some σ'->
 (es.any (ov c)=true->V=2147418112)->(es.any (ov c)=false->Lab r σ 0 jM V∧Beh r σ (fun s=>s.a=c.et) V)->Beh r σ' (fun s=>s.a=c.et) V:=by
 induction k with
 |zero=>
  intro es n hl hp hw σ σ' h h1 h2;have:es=[]:=aM (by omega);subst this;rw[ku h];exact(h2 rfl).2
 |succ k ih=>
  intro es n hl hp hw σ σ' h h1 h2;simp only[jO]at h;by_cases h0:es.length=0
  ·rw[if_pos h0]at h;have:es=[]:=aM h0;subst this;rw[ku h];exact(h2 rfl).2
  rw[if_neg h0]at h;have hne:es≠[]:=fun e=>h0 (by rw[e];rfl)
  obtain⟨s1,s2,s3⟩:=zQ hne hp;obtain⟨τ1,g1,g⟩:=iJ h;obtain⟨τ2,g2,g⟩:=iJ g;obtain⟨τ4,g,g5⟩:=gR g;obtain⟨τ3,g3,g4⟩:=gR g;have hsplit:es.take (ew es)++es.drop (ew es)=es:=List.take_append_drop _ _;have hp':=hp;rw[<-hsplit,cW]at hp';obtain⟨pl,pr,_⟩:=hp';have hany:es.any (ov c)=((es.take (ew es)).any (ov c)||(es.drop (ew es)).any (ov c)):=by rw[<-List.any_append,hsplit]
  have hwl:∀e∈es.take (ew es),Ax e:=fun e he=>hw e (aB he)
  have hwr:∀e∈es.drop (ew es),Ax e:=fun e he=>hw e (aQ he)
  have hpos:0<ew es:=by
   match es,hne with
   |x::es,_=>simp only[ew];omega
  have ler:(es.drop (ew es)).length<=k:=by simp;omega
  have lel:(es.take (ew es)).length<=ew es:=by simp;omega
  generalize es.take (ew es)=left at*;generalize es.drop (ew es)=right at*;generalize ew es=m at*;generalize(es.getD 0 E.zero).et=a0 at*;have kb:=iX g2;refine qX g5 oN (fun t1=> ?_) (fun t1=> ?_)
  ·rw[lu]at t1;replace t1:=beq_eq_false_iff_ne.1 t1;have e0:left.any (ov c)=false:=any_none fun e he=>by
    have:=s2 e he;have hm:meets e c=false:=by unfold meets;rw[this,Bool.and_eq_false_iff];left;rw[beq_eq_false_iff_ne];exact fun e'=>t1 e'.symm
    unfold ov;rw[hm,Bool.false_and]
   rw[e0,Bool.false_or]at hany;rw[hany]at h1 h2;have B:=ih right _ ler pr hwr g1 h1 h2;exact((sk kb B).1.rH g3).more g4
  rw[lu]at t1;replace t1:=beq_iff_eq.1 t1;have e0:right.any (ov c)=false:=any_none fun e he=>by
   have:=s3 e he;have hm:meets e c=false:=by unfold meets;rw[Bool.and_eq_false_iff];left;rw[beq_eq_false_iff_ne];omega
   unfold ov;rw[hm,Bool.false_and]
  rw[e0,Bool.or_false]at hany;have e1:left.any (ov c)=sf left c.nr c.args:=by
   unfold sf;have:∀e∈left,ov c e=(e.nr==c.nr&&anyR e c.args):=fun e he=>by
    have ha:=s2 e he;unfold ov meets;rw[ha,<-t1];simp
   rw[cB,List.any_eq_true,List.any_eq_true];constructor
   ·rintro⟨e,he,h'⟩;exact⟨e,he,by rw[<-this e he];exact h'⟩
   rintro⟨e,he,h'⟩;exact⟨e,he,by rw[this e he];exact h'⟩
  rw[hany,e1]at h1 h2;refine rj g4 _ ?_;rw[show jJ r (0:Int).toNat=c.nr from R.w0];exact GN R m left _ s1 lel (EA pl s2) hwl g3 h1 (fun e=>((h2 e).1.rH g1).more kb)
theorem Ad{p:List E}{m:Mk}(R:tv r c.et c.nr (fun i=>(c.args.getD i 0).toNat))(hp:p.Pairwise (fun a b=>jG a b=true))(hw:∀e∈p,Ax e)(h:jc (iY p)=some (out,m))(s:S):
 kt r out.reverse s (if p.any (ov c)=true then 2147418112 else 2147483648):=by
 rw[<-xQ]at h;unfold iY at h;obtain⟨τ1,g1,g⟩:=iJ h;obtain⟨τ2,g2,g⟩:=iJ g;obtain⟨τ3,g3,g4⟩:=iJ g;have B1:Beh r τ1 jM 2147483648:=Dk (iX g1) _;obtain⟨L2,B2⟩:=sk (iX g2) B1;have hV:p.any (ov c)=false->(if p.any (ov c)=true then(2147418112:Int)else 2147483648)=2147483648:=fun e=>by rw[e];rfl
 have B3:=Gi (V:=if p.any (ov c)=true then 2147418112 else 2147483648) R p.length p 0 (ae _) hp hw g3 (fun e=>by rw[if_pos e]) (fun e=>by rw[hV e];exact⟨L2,B2.any _⟩);by_cases h0:p.length=0
 ·rw[if_pos h0]at g4;have:p=[]:=aM h0;subst this;have e4:=ku g4;have e3:τ3=τ2:=ku g3;have:Beh r (out,m) jM 2147483648:=by rw[e4,e3];exact B2
  exact this s trivial
 rw[if_neg h0]at g4;have:Beh r (out,m) jM (if p.any (ov c)=true then 2147418112 else 2147483648):=rj (iX g4) _ (by rw[show jJ r (4:Int).toNat=c.et from R.w4];exact B3);exact this s trivial
def few(c:Int):Prop:=c=32∨c=84∨c=6∨c=5∨c=21∨c=37∨c=53
def okIns(i:I):Prop:=(i.c=32∧i.k%4=0∧i.k<=60)∨i.c=84∨i.c=6
def okF(x:It):Prop:=(x.kind=0∧okIns x.ins)∨((x.kind=1∨x.kind=2)∧isT x.ins.c)∨x.kind=4
def VOK(out:List I):Prop:=∀j,j<out.length->kf (out.getD j I.zero).c (out.getD j I.zero).jt (out.getD j I.zero).jf (out.getD j I.zero).k (j:Int)=0∧few (out.getD j I.zero).c
structure Good(σ:List I×Mk):Prop where
 ne:1<=σ.1.length
 v:VOK σ.1
 m:∀t a,σ.2 t=some a->1<=a∧a<=σ.1.length
theorem VOK.snoc{i:I}(h:VOK out)(hi:kf i.c i.jt i.jf i.k (out.length:Int)=0∧few i.c):VOK (out++[i]):=fun j hj=>by
 rw[aj,bG]at hj;by_cases e:j<out.length
 ·have:(out++[i]).getD j I.zero=out.getD j I.zero:=by rw[aa,aD e,aa]
  rw[this];exact h j e
 have ej:j=out.length:=by omega
 subst ej;have:(out++[i]).getD out.length I.zero=i:=by rw[aa,aw (ae _)];simp
 rw[this];exact hi
theorem EB{i:I}(h:okIns i)(ha:1<=a):kf i.c i.jt i.jf i.k a=0∧few i.c:=by
 refine⟨?_,by unfold few;rcases h with⟨h,_⟩|h|h<;>simp[h]⟩;rcases h with⟨h,h1,h2⟩|h|h<;>unfold kf<;>rw[h]
 ·rw[if_neg (by decide),if_neg (by omega),if_neg (by simp[show oQ 32=false by decide]),if_neg (by simp[nu,show ke 32=false by decide]),if_neg (by simp[sT]),if_neg (by omega)]
 ·rw[if_neg (by decide),if_neg (by omega),if_neg (by simp[show oQ 84=false by decide]),if_neg (by simp[nu,show ke 84=false by decide]),if_neg (by simp[sT]),if_neg (by omega)]
 rw[if_neg (by decide),if_neg (by omega),if_neg (by simp[show oQ 6=false by decide]),if_neg (by simp[nu,show ke 6=false by decide]),if_neg (by simp[sT]),if_neg (by omega)]
theorem qn{c jt jf k:Int}(hc:isT c)(h1:jt<a)(h2:jf<a)(ha:1<=a):kf c jt jf k a=0∧few c:=by
 refine⟨?_,by unfold few;rcases hc with h|h|h<;>simp[h]⟩;rcases hc with rfl|rfl|rfl<;>unfold kf
 ·rw[if_neg (by decide),if_neg (by omega),if_neg (by simp[show oQ 21=false by decide]),if_neg (by simp[nu,show ke 21=true by decide];omega),if_neg (by simp[sT]),if_neg (by omega)]
 ·rw[if_neg (by decide),if_neg (by omega),if_neg (by simp[show oQ 37=false by decide]),if_neg (by simp[nu,show ke 37=true by decide];omega),if_neg (by simp[sT]),if_neg (by omega)]
 rw[if_neg (by decide),if_neg (by omega),if_neg (by simp[show oQ 53=false by decide]),if_neg (by simp[nu,show ke 53=true by decide];omega),if_neg (by simp[sT]),if_neg (by omega)]
theorem AU{d:Int}(h:d<a)(ha:1<=a):kf 5 0 0 d a=0∧few 5:=by
 refine⟨?_,by simp[few]⟩;unfold kf;rw[if_neg (by decide),if_neg (by omega),if_neg (by simp[show oQ 5=false by decide]),if_neg (by simp[nu,show ke 5=false by decide];omega),if_neg (by simp[sT]),if_neg (by omega)]
theorem IJ{x:It}(g:Good σ)(hx:okF x)(h:stI x σ=some σ'):Good σ':=by
 have hne:=g.ne;unfold stI at h;rcases hx with⟨h0,hi⟩|⟨hk,hc⟩|h4
 ·rw[if_pos h0]at h
  cases h;refine⟨by simp,g.v.snoc (EB hi (by omega)),fun t a ht=> ?_⟩;have:=g.m t a ht;simp only[aj,bG];omega
 ·rw[if_neg (by omega)]at h
  cases e:σ.2 x.target with
  |none=>rw[e]at h;simp only at h;rw[if_neg (by omega)]at h;cases h
  |some a=>
   rw[e]at h;simp only at h;rw[if_neg (by omega)]at h;cases h;obtain⟨a1,a2⟩:=g.m _ _ e;have hm:∀(l:List I)t a,σ.2 t=some a->1<=a∧a<=(σ.1++l).length:=fun l t a ht=>by
    have:=g.m t a ht;rw[aj];omega
   have hd:(σ.1.length:Int)-a<σ.1.length:=by omega
   have hd0:0<=(σ.1.length:Int)-a:=by omega
   generalize(σ.1.length:Int)-a=d at*;refine⟨by rw[aj];omega,?_,hm _⟩;show VOK (σ.1++brI x d);unfold brI;rw[if_neg (by omega)];by_cases h255:d<=255
   ·rw[if_pos h255];refine g.v.snoc ?_;unfold kG;split
    ·exact qn hc hd (by show(0:Int)<_;omega) (by omega)
    exact qn hc (by show(0:Int)<_;omega) hd (by omega)
   rw[if_neg h255,show [(⟨5,0,0,d⟩:I),kG x.ins (!(x.kind==1)) 1]=[⟨5,0,0,d⟩]++[kG x.ins (!(x.kind==1)) 1]from rfl,<-aF];have v1:VOK (σ.1++[⟨5,0,0,d⟩]):=g.v.snoc (AU hd (by omega));refine v1.snoc ?_;rw[aj,bG];unfold kG;split
   ·exact qn hc (by show(1:Int)<_;omega) (by show(0:Int)<_;omega) (by omega)
   exact qn hc (by show(0:Int)<_;omega) (by show(1:Int)<_;omega) (by omega)
 rw[if_neg (by omega)]at h
 cases e:σ.2 x.target with
 |some a=>rw[e]at h;simp only at h;rw[if_pos h4]at h;cases h
 |none=>
  rw[e]at h;simp only at h;rw[if_pos h4]at h;cases h;refine⟨hne,g.v,fun t a ht=> ?_⟩;simp only at ht;split at ht
  ·cases ht;exact⟨hne,ae _⟩
  exact g.m t a ht
theorem II{l:List It}(hl:∀x∈l,okF x):∀{σ σ':List I×Mk},Good σ->foI l σ=some σ'->Good σ':=by
 induction l with
 |nil=>intro σ σ' g h;rw[ku h];exact g
 |cons x l ih=>
  intro σ σ' g h;obtain⟨τ,h1,h2⟩:=gR h;exact IJ (ih (fun y hy=>hl y (bo _ hy)) g h1) (hl x (aY ..)) h2
def FL(l:List It):Prop:=∀x∈l,okF x
theorem FL.nil:FL []:=fun x hx=>by cases hx
theorem FL.app{a b:List It}(h:FL a)(k:FL b):FL (a++b):=fun x hx=>by
 rcases bj.1 hx with h1|h1
 ·exact h x h1
 exact k x h1
theorem FL.cons{x:It}{l:List It}(h:okF x)(k:FL l):FL (x::l):=fun y hy=>by
 rcases bF.1 hy with rfl|h1
 ·exact h
 exact k y h1
theorem ri(h:a%4=0)(h2:a<=60):okF (fi a):=.inl ⟨rfl,.inl ⟨rfl,h,h2⟩⟩
theorem Hk(m:Int):okF (jr 84 m):=.inl ⟨rfl,.inr (.inl rfl)⟩
theorem ID(m:Int):okF (jQ m):=.inl ⟨rfl,.inr (.inr rfl)⟩
theorem yC{c:Int}(hc:isT c)(k t:Int):okF (fW c k t):=.inr (.inl ⟨.inl rfl,hc⟩)
theorem sA{c:Int}(hc:isT c)(k t:Int):okF (fq c k t):=.inr (.inl ⟨.inr rfl,hc⟩)
theorem sL(t:Int):okF (fe t):=.inr (.inr rfl)
theorem FZ(h:a%4=0)(h2:a<=60)(m b fail:Int):FL (ig a m b fail):=by
 unfold ig;split
 ·exact FL.nil
 refine FL.cons (ri h h2) (FL.app ?_ (FL.cons (sA oN _ _) FL.nil));split
 ·exact FL.nil
 exact FL.cons (Hk _) FL.nil
theorem fl_low(h:a%4=0)(h2:a+4<=60)(v:Nat)(fail t:Int):FL (td v a fail t):=
 FL.app (FL.cons (ri (by omega) h2) (FL.cons (yC xr _ _) (FL.cons (sA oN _ _) (FL.cons (ri h (by omega)) (FL.cons (sA C8 _ _) FL.nil))))) (FL.cons (sL _) FL.nil)
theorem IG(h:a%4=0)(h2:a+4<=60)(v:Nat)(fail t:Int):FL (nf v a fail t):=
 FL.app (FL.cons (ri (by omega) h2) (FL.cons (yC xr _ _) (FL.cons (sA oN _ _) (FL.cons (ri h (by omega)) (FL.cons (yC xr _ _) FL.nil))))) (FL.cons (sL _) FL.nil)
theorem fl_con(c:K)(h:a%4=0)(h2:a+4<=60)(fail p1 p2:Int):FL (gO c a fail p1 p2):=by
 unfold gO;split
 ·exact FL.app (FZ (by omega) h2 _ _ _) (FZ h (by omega) _ _ _)
 split
 ·refine FL.app ?_ ?_
  ·unfold ly;split
   ·exact FL.nil
   exact fl_low h h2 _ _ _
  unfold jy;split
  ·exact FL.nil
  exact IG h h2 _ _ _
 exact FL.nil
theorem H3(ks:List K):∀(i:Nat)(fail n:Int),i+ks.length<=6->FL (ja ks (i:Int) fail n):=by
 induction ks with
 |nil=>intro i fail n _;exact FL.nil
 |cons c ks ih=>
  intro i fail n hl;simp only[aq]at hl;refine FL.app (fl_con c (by omega) (by omega) _ _ _) ?_;have:=ih (i+1) fail (jZ c n) (by omega);have e:((i+1:Nat):Int)=(i:Int)+1:=by omega
  rw[e]at this;exact this
theorem CY(h6:ks.length=6)(fail n:Int):FL (jN ks fail n):=FL.app (H3 ks 0 fail n (by omega)) (FL.cons (ID _) FL.nil)
theorem Hg(rs:List (List K))(h:∀ks∈rs,ks.length=6):∀n,FL (jw rs n):=by
 induction rs with
 |nil=>intro n;exact FL.nil
 |cons ks rs ih=>
  intro n
  cases rs with
  |nil=>exact CY (h ks (aY ..)) _ _
  |cons q rs=>exact FL.app (FL.app (CY (h ks (aY ..)) _ _) (FL.cons (sL _) FL.nil)) (ih (fun k' h'=>h k' (bo _ h')) _)
def Six(e:E):Prop:=∀ks∈e.rules,ks.length=6
theorem Ff:Six E.zero:=fun ks h=>by cases h
theorem six_at(h:∀e∈es,Six e)(i:Nat):Six (es.getD i E.zero):=by
 by_cases hi:i<es.length
 ·rw[aa,ag hi];exact h _ (aI hi)
 rw[aa,bw (by omega)];exact Ff
theorem Hh(k:Nat):∀(es:List E)(n:Int),(∀e∈es,Six e)->FL (fV k es n):=by
 induction k with
 |zero=>intro es n _;exact FL.nil
 |succ k ih=>
  intro es n h;simp only[fV];split
  ·exact FL.cons (sA oN _ _) (Hg _ (six_at h 0) _)
  exact FL.app (FL.app (FL.cons (yC C8 _ _) (ih _ _ (fun e he=>h e (aB he)))) (FL.cons (sL _) FL.nil)) (ih _ _ (fun e he=>h e (aQ he)))
theorem IW(k:Nat):∀(es:List E)(n:Int),(∀e∈es,Six e)->FL (jO k es n):=by
 induction k with
 |zero=>intro es n _;exact FL.nil
 |succ k ih=>
  intro es n h;simp only[jO];split
  ·exact FL.nil
  exact FL.app (FL.app (FL.cons (sA oN _ _) (FL.cons (ri (by decide) (by decide)) (Hh _ _ _ (fun e he=>h e (aB he))))) (FL.cons (sL _) FL.nil)) (ih _ _ (fun e he=>h e (aQ he)))
theorem DR{F:Nat->Int}(m:Nat):∀k,(∀i,k<=i->i<k+m->F i=0)->mc F m k=(0,0):=by
 induction m with
 |zero=>intro k _;rfl
 |succ m ih=>
  intro k h;rw[mc,if_pos (h k (ae _) (by omega))];exact ih (k+1) (fun i h1 h2=>h i (by omega) (by omega))
theorem xK{p:List E}(h6:∀e∈p,Six e){m:Mk}(h:jc (iY p)=some (out,m))(hn:out.length<=4096):1<=out.length∧jz out.reverse=(0,0)∧∀x∈out,few x.c:=by
 rw[<-xQ]at h;unfold iY at h;obtain⟨τ1,g1,g⟩:=iJ h;have e1:=Dm (iX g1);have G1:Good τ1:=by
  rw[e1];refine⟨by simp,fun j hj=> ?_,fun t a ht=>by cases ht⟩;simp only[bp,bG]at hj;have:j=0:=by omega
  subst this;exact⟨by decide,by simp[few]⟩
 have hfl:FL ((if p.length=0 then []else [fi 4])++jO p.length p 0++[fe 0]):=by
  refine FL.app (FL.app ?_ (IW _ _ _ h6)) (FL.cons (sL _) FL.nil);split
  ·exact FL.nil
  exact FL.cons (ri (by decide) (by decide)) FL.nil
 have G:=II hfl G1 g;have hne:1<=out.length:=G.ne;refine⟨hne,?_,fun x hx=>by
  obtain⟨i,hi,rfl⟩:=bH hx
  have:=(G.v i hi).2
  rwa [aa,ag hi]at this⟩
 rw[xh (by rw[dc];exact hne) (by rw[dc];exact hn),dY];refine DR _ _ (fun i _ hi=> ?_);rw[dc,aC]at hi;unfold lE;rw[dc];have hv:=G.v (out.length-1-i) (by show _<out.length;omega);have e:out.reverse.getD i I.zero=out.getD (out.length-1-i) I.zero:=by
  rw[aa,List.getElem?_reverse hi,aa]
 rw[e,<-pX];have e2:((out.length:Int)-1-(i:Int))=((out.length-1-i:Nat):Int):=by omega
 rw[e2];exact hv.1
theorem tY{p q:List Int}{v:Int}(h0:0<=v)(h1:v<=4294967295)(e:r=p++eD v 4++q):jJ r p.length=v:=by
 subst e;rw[vM h0 h1];have g:∀i,(p++[v%256,v/256%256,v/65536%256,v/16777216]++q).getD (p.length+i) 0=([v%256,v/256%256,v/65536%256,v/16777216]++q).getD i 0:=fun i=>by
  rw[aF,aa,aw (by omega),aa];congr 2;omega
 unfold jJ;have g0:=g 0;rw[cA]at g0;rw[g0,g 1,g 2,g 3];simp;omega
theorem Ac(args:List Int){i:Nat}(hi:i<args.length):gL args=gL (args.take i)++eD (args.getD i 0) 8++gL (args.drop (i+1)):=by
 have e:args=args.take i++args.getD i 0::args.drop (i+1):=by
  rw[aa,ag hi];simp
 conv=>lhs;rw[e]
 simp[gL]
theorem kM(n:Nat):∀v:Int,eV (eD v n):=by
 induction n with
 |zero=>intro v x hx;cases hx
 |succ n ih=>
  intro v x hx;simp only[eD]at hx;rcases bF.1 hx with rfl|h
  ·omega
  exact ih _ x h
theorem xF(l:List Int):eV (gL l):=fun x hx=>by
 unfold gL at hx;obtain⟨v,_,h⟩:=cD.1 hx;exact kM 8 v x h
theorem Cf(c:C)(ip:Int):eV (mw c ip):=by
 unfold mw;split
 ·exact lS (lS (lS (kM 4 _) (kM 4 _)) (kM 8 _)) (xF _)
 intro x hx;cases hx
theorem rI(h6:c.args.length=6)(ip:Int):(mw c ip).length=64:=by
 unfold mw;rw[if_pos h6];simp only[aj,iw,qP,h6]
theorem rec_of(hok:c.ok)(h6:c.args.length=6)(ip:Int):tv (mw c ip) c.et c.nr (fun i=>(c.args.getD i 0).toNat):=by
 obtain⟨h1,h2,h3,h4,h5⟩:=hok;have ha:∀i,0<=c.args.getD i 0∧c.args.getD i 0<=18446744073709551615:=fun i=>by
  by_cases hi:i<c.args.length
  ·rw[aa,ag hi];exact h5 _ (aI hi)
  rw[aa,bw (by omega)];decide
 have e:mw c ip=eD c.nr 4++eD c.et 4++eD ip 8++gL c.args:=by unfold mw;rw[if_pos h6]
 have sp:∀i,i<6->∃q,mw c ip=(eD c.nr 4++eD c.et 4++eD ip 8++gL (c.args.take i))++eD (c.args.getD i 0%4294967296) 4++(eD (c.args.getD i 0/4294967296) 4++q):=fun i hi=>by
  refine⟨gL (c.args.drop (i+1)),?_⟩;rw[e,Ac c.args (i:=i) (by omega),uP (ha i).1 (ha i).2];simp only[aF]
 have pl:∀i,i<6->(eD c.nr 4++eD c.et 4++eD ip 8++gL (c.args.take i)).length=16+8*i:=fun i hi=>by
  simp only[aj,iw,qP,bN,h6];omega
 refine⟨?_,?_,fun i hi=> ?_,fun i hi=> ?_,fun i=> ?_⟩
 ·exact tY (p:=[]) (q:=eD c.et 4++eD ip 8++gL c.args) h3 h4 (by rw[e];simp only[bp,aF])
 ·have:=tY (r:=mw c ip) (p:=eD c.nr 4) (q:=eD ip 8++gL c.args) h1 h2 (by rw[e];simp only[aF]);rw[iw]at this;exact this
 ·obtain⟨q,hq⟩:=sp i hi;have hr:=ha i;have:=tY (by omega) (by omega) hq;rw[pl i hi]at this;rw[this];omega
 ·obtain⟨q,hq⟩:=sp i hi;have hr:=ha i;have:=tY (r:=mw c ip) (p:=(eD c.nr 4++eD c.et 4++eD ip 8++gL (c.args.take i))++eD (c.args.getD i 0%4294967296) 4) (q:=q) (v:=c.args.getD i 0/4294967296) (by omega) (by omega) (by rw[hq];simp only[aF]);rw[aj,pl i hi,iw]at this;rw[this];omega
 have hr:=ha i;show(c.args.getD i 0).toNat<_;omega
end Go.Proofs.YtdihdapmphkhpaaGreat
namespace Go.Proofs.YtdihdapmphkhpaaGreat
open Go.RowKit
variable{B D k n:Nat}{l:List It}{p:List I}{v:Value}{w:World}
def itF(l:List It)(j:Nat):Value:=(itC (l.getD (j/6) It.zero)).getD (j%6) undef
theorem itCs_F(l:List It)(j:Nat)(h:j<l.length*6):(jA l)[j]? =some (itF l j):=by
 have h1:j/6<l.length:=by omega
 have:=yS l (j/6) h1 (j%6) (by omega);rw[show j/6*6+j%6=j by omega]at this;rw[this];unfold itF;have e:l.getD (j/6) It.zero=l[j/6]:=by rw[aa,ag h1];rfl
 rw[e];have h2:j%6<(itC l[j/6]).length:=by simp[itC];omega
 rw[ag h2,aa,ag h2];rfl
def qF(w:World)(D n:Nat)(l:List It)(k:Nat):Prop:=∃f,w.rowIs D 91 (n*6) f∧∀j,j<k*6->f j=itF l j
theorem qF.ey{w':World}(h:qF w D n l k)(hb:Below w.heap.size w w'):qF w' D n l k:=by
 obtain⟨f,hr,hf⟩:=h;exact⟨f,hr.of_block (hb.block D hr.lt),hf⟩
theorem qF.own(h:qF w D n l k)(j:Nat)(hj:j<n*6):∃v,w.cell? ⟨D,j,none⟩=some v∧w.frozen? ⟨D,j,none⟩=false:=by
 obtain⟨f,hr,_⟩:=h;exact⟨_,hr.cell hj,hr.frozen j⟩
theorem qF.done(h:qF w D l.length l l.length)(hB:B<=D)(hm:l.length<=maxLen):gT w B (.slice (some ⟨D,0,none⟩) l.length l.length) l:=by
 obtain⟨f,⟨c,hc,hs,hg⟩,hf⟩:=h;refine⟨nw l,.inr ⟨D,l.length,c,rfl,hB,hc,ae _,hm,hs,?_⟩⟩;apply List.ext_getElem?;intro j;rw[bP];by_cases hj:j<l.length*6
 ·rw[if_pos hj,itCs_F l j hj,<-hf j hj];have:=hg j hj;simpa using this
 rw[if_neg hj,bw (by rw[nw];omega)]
theorem oP (c : Int) (w : World) :
    Calls Tryz.prog 70 #[.int .u16 c] w fun e w' => e = .returned (.bool (oQ c)) ∧ w' = w := by
  go_enter Tryz.func70, Tryz.ntmps70
  go_wp2
  all_goals (go_ret)
  all_goals exact ⟨nt (by simp [oQ, *]), rfl⟩
theorem uE (c : Int) (w : World) :
    Calls Tryz.prog 110 #[.int .u16 c] w fun e w' => e = .returned (.bool (ke c)) ∧ w' = w := by
  go_enter Tryz.func110, Tryz.ntmps110
  go_wp2
  all_goals (go_ret)
  all_goals exact ⟨nt (by simp [ke, *]), rfl⟩
theorem sC (c : Int) (w : World) :
    Calls Tryz.prog 109 #[.int .u16 c] w fun e w' => e = .returned (.bool (pf c)) ∧ w' = w := by
  go_enter Tryz.func109, Tryz.ntmps109
  go_wp2
  all_goals (go_ret)
  all_goals exact ⟨nt (by simp [pf, *]), rfl⟩
theorem za (c : Int) (w : World) :
    Calls Tryz.prog 69 #[.int .u16 c] w fun e w' => e = .returned (.bool (pP c)) ∧ w' = w := by
  go_enter Tryz.func69, Tryz.ntmps69
  go_wp2_with (first | (go_at_call 70; refine (oP _ _).mono ?_; rintro e w' ⟨rfl, rfl⟩) | (go_at_call 109; refine (sC _ _).mono ?_; rintro e w' ⟨rfl, rfl⟩) | (go_at_call 110; refine (uE _ _).mono ?_; rintro e w' ⟨rfl, rfl⟩))
  all_goals (go_ret)
  all_goals exact ⟨nt (by simp [pP, *]), rfl⟩
theorem rB(c jt jf k:Int)(w:World):
 Calls Tryz.prog 72 #[kD c jt jf k] w fun e w'=>e=.returned (.bool (sT c k))∧Below w.heap.size w w':=by
 go_enter Tryz.func72,Tryz.ntmps72;go_wp2;all_goals(go_ret)
 all_goals refine⟨nt ?_,(af _ _).alloc (ae _) _⟩
 all_goals simp_all[sT]
theorem vZ(c jt jf k after:Int)(w:World)(h1:0<=jt)(h2:jt<=255)(h3:0<=jf)(h4:jf<=255):
 Calls Tryz.prog 71 #[kD c jt jf k,.int .u32 after] w fun e w'=>e=.returned (.bool (nu c jt jf k after))∧Below w.heap.size w w':=by
 go_enter Tryz.func71,Tryz.ntmps71;go_wp2_with(go_at_call 110;refine(uE _ _).mono ?_;rintro e w'⟨rfl,rfl⟩);all_goals(go_ret)
 all_goals refine⟨nt ?_,(af _ _).alloc (ae _) _⟩
 all_goals simp_all[nu]
theorem zz(c jt jf k after:Int)(w:World)(h1:0<=jt)(h2:jt<=255)(h3:0<=jf)(h4:jf<=255)(h5:0<=k)(h6:0<=after)(h7:after<=4096):
 Calls Tryz.prog 29 #[kD c jt jf k,.int .i64 after] w fun e w'=>e=.returned (.int .i64 (kf c jt jf k after))∧Below w.heap.size w w':=by
 go_enter Tryz.func29,Tryz.ntmps29;go_wp2_with(first|(go_at_call 70;refine(oP _ _).mono ?_;rintro e w'⟨rfl,rfl⟩)|(go_at_call 69;refine(za _ _).mono ?_;rintro e w'⟨rfl,rfl⟩)|(go_at_call 71;refine(vZ _ _ _ _ _ _ (by omega) (by omega) (by omega) (by omega)).mono ?_;rintro e w1⟨rfl,hb1⟩;have hc1:=(bcell hb1).1;have hz1:w.heap.size<w1.heap.size:=(by have:=hb1.size;simp at this;omega))|(go_at_call 72;refine(rB _ _ _ _ _).mono ?_;rintro e w2⟨rfl,hb2⟩;have hc2:=(bcell hb2).1));all_goals(go_ret)
 all_goals refine⟨fL ?_,?_⟩
 all_goals first
  |exact(af _ _).alloc (ae _) _
  |exact((af _ _).alloc (ae _) _).trans (Below.mono (by assumption) (by simp))
  |exact(((af _ _).alloc (ae _) _).trans (Below.mono (by assumption) (by simp))).trans (Below.mono (by assumption) (by omega))
  |(simp_all[kf];done)
abbrev Ma:=Int×Nat
def PM(w:World)(b o:Nat)(m:Ma):Prop:=w.cell? ⟨b,o,none⟩=some (.int .i64 m.1)∧w.cell? ⟨b,o+1,none⟩=some (.int .i64 (m.2:Int))
theorem PM.stays:mK PM:=fun w w' b o x hlt hb⟨h0,h1⟩=>⟨(hb.cell (p:=⟨b,_,none⟩) hlt).trans h0,(hb.cell (p:=⟨b,_,none⟩) hlt).trans h1⟩
def maC(m:Ma):List Value:=[.int .i64 m.1,.int .i64 (m.2:Int)]
abbrev mE(w:World)(B:Nat)(v:Value)(l:List Ma):Prop:=w.ownsRow B 137 2 v l.length (l.flatMap maC)
theorem IH(l:List Ma)(i:Nat)(h:i<l.length):(l.flatMap maC)[i*2]? =some (.int .i64 l[i].1)∧(l.flatMap maC)[i*2+1]? =some (.int .i64 (l[i].2:Int)):=by
 induction l generalizing i with
 |nil=>simp at h
 |cons x p ih=>
  have e:(x::p).flatMap maC=[.int .i64 x.1,.int .i64 (x.2:Int)]++p.flatMap maC:=by simp[maC]
  rw[e];match i with
  |0=>simp
  |i+1=>
   have hi:i<p.length:=by simpa using h
   have:=ih i hi;rw[aw (by simp;omega),aw (by simp;omega)];simp only[aq,aU];rw[show(i+1)*2-(0+1+1)=i*2 by omega,show(i+1)*2+1-(0+1+1)=i*2+1 by omega];simpa using this
theorem DG{l:List Ma}(h:mE w B v l):∃a cap,v=.slice a l.length cap∧l.length<=cap∧eS 2 PM w a l:=by
 have h0:=h;obtain⟨_,⟨rfl,hl⟩|⟨g,cap,cur,rfl,hb,hgc,hn,hm,hs,hx⟩⟩:=h
 ·have:l=[]:=aM hl;subst this;exact⟨none,0,rfl,ae _,.inl rfl⟩
 refine⟨_,_,rfl,hn,.inr ⟨g,0,rfl,(bf.1 hgc).1,fun i hi=> ?_⟩⟩;obtain⟨c0,c1⟩:=IH l i hi;have key:=fun j(hj:j<l.length*2)=>bE h0 j hj
 rw[aC];exact⟨(key _ (by omega)).trans c0,(key _ (by omega)).trans c1⟩
def jF(l:List Ma)(t:Int):Option Nat:=match l.reverse.find? (fun m=>m.1==t)with|some m=>some m.2|none=>none
theorem nR(l:List Ma)(m:Ma)(t:Int):jF (l++[m]) t=if t=m.1 then some m.2 else jF l t:=by
 unfold jF;rw[dE];simp only[List.reverse_cons,List.reverse_nil,bp,List.singleton_append,List.find?_cons];by_cases h:t=m.1
 ·subst h;simp
 rw[if_neg h];have:(m.1==t)=false:=by simp;exact fun e=>h e.symm
 rw[this]
theorem Cv{l:List Ma}(h:k<l.length)(t:Int):jF (l.take (k+1)) t=if t=(l.getD k (0,0)).1 then some (l.getD k (0,0)).2 else jF (l.take k) t:=by
 have e:l.take (k+1)=l.take k++[l.getD k (0,0)]:=by
  rw[cK,aa,ag h];rfl
 rw[e,nR]
def fdV(o:Option Nat):Int:=match o with|some a=>a|none=> -1
theorem CF(l:List Ma)(t:Int)(a:Option Addr)(cap:Nat)(w:World)(hs:eS 2 PM w a l)(hn:l.length<=1048576):
 Calls Tryz.prog 81 #[.slice a l.length cap,.int .i64 t] w fun e w'=>e=.returned (.int .i64 (fdV (jF l t)))∧w'=w:=by
 have HP:Hid (∀i,i<l.length->∃b o,a=some ⟨b,o,none⟩∧b<w.heap.size∧PM w b (o+i*2) (l.getD i (0,0))):=fun i hi=>hs.at hi (0,0)
 have HT:Hid (∀k,k<l.length->jF (l.take (k+1)) t=if t=(l.getD k (0,0)).1 then some (l.getD k (0,0)).2 else jF (l.take k) t):=fun k hk=>Cv hk t
 have H0:Hid (jF l t=jF (l.take l.length) t):=by show _=_;rw[ct]
 have HE:Hid (jF (l.take 0) t=none):=rfl;obtain⟨F,hF⟩:∃F:Nat->Option Nat,∀k,jF (l.take k) t=F k:=⟨_,fun _=>rfl⟩;simp only[hF]at HT H0 HE;generalize jF l t=R at*;clear hs hF;generalize l.length=n at*;have hwn:IntKind.i64.wrap ((n:Int)-1)=(n:Int)-1:=by rw[aT];omega
 go_enter Tryz.func81,Tryz.ntmps81;go_wp2_with fail;go_loop [5](fun i=>∃k:Nat,k<=n∧i=.int .i64 ((k:Int)-1)∧Hid (R=F k))(fun i=>(intOf i+1).toNat)
 case atStart=>exact⟨n,by omega,by first|rfl|go_num,H0⟩
 case round=>
  obtain⟨k,hk,rfl,HR⟩:=hrel;by_cases hk0:0<k
  ·obtain⟨k',rfl⟩:∃k',k=k'+1:=⟨k-1,by omega⟩;obtain⟨b,o,rfl,hlt,c0,c1⟩:=HP.out k' (by omega);have HTk:=HT.out k' (by omega);have hk':((k'+1:Nat):Int)-1=(k':Int):=by omega
   rw[hk'];have hkn:(k':Int)<(n:Int):=by omega
   have hw2:IntKind.i64.wrap ((k':Int)-1)=(k':Int)-1:=by rw[aT];omega
   generalize l.getD k' (0,0)=m at*;obtain⟨ml,mb⟩:=m;simp only at c0 c1 HTk;by_cases ht:t=ml
   ·have HR2:Hid (R=some mb):=HR.out.trans (HTk.trans (if_pos ht));subst ht;clear HP HT HTk HR H0 HE;go_wp2;go_ret;exact⟨by rw[HR2.out];rfl,rfl⟩
   have HR2:Hid (R=F k'):=HR.out.trans (HTk.trans (if_neg ht));have hb:((ml:Int)==t)=false:=by simp;exact fun e=>ht e.symm
   clear HP HT HTk HR H0 HE ht;go_wp2;go_round
   case rel=>exact⟨k',by omega,by first|rfl|go_num,HR2⟩
   case measure=>simp[intOf]
  have hk':k=0:=by omega
  subst hk';have HR2:Hid (R=none):=HR.out.trans HE.out;go_wp2;go_ret;exact⟨by rw[HR2.out];rfl,rfl⟩
def insC(x:I):List Value:=[.int .u16 x.c,.int .u8 x.jt,.int .u8 x.jf,.int .u32 x.k]
def ff(p:List I):List Value:=p.flatMap insC
abbrev gS(w:World)(base:Nat)(v:Value)(p:List I):Prop:=w.ownsRow base 68 4 v p.length (ff p)
theorem iG{base:Nat}{x:I}(hn:n=p.length+1)(h:w.ownsRow base 68 4 v n (ff p++insC x)):gS w base v (p++[x]):=by
 subst hn;simpa[gS,ff]using h
theorem jE{w1:World}{base:Nat}(h:gS w base v p)(hb:Below w.heap.size w w1):gS w1 base v p:=
 aA (row:=none) h ⟨hb.os,hb.tape,hb.output,hb.size,fun k hk _=>hb.block k hk⟩ (by cases v.ownBlock<;>simp)
theorem qO{w':World}{row:Option Nat}(h:gS w B v p)(hg:w.grownBy w' row)(hne:∀q,v.ownBlock=some q->some q≠row):gS w' B v p:=by
 refine aA h hg ?_
 cases hv:v.ownBlock with
 |none=>exact .inl rfl
 |some q=>exact .inr (hne q hv)
end Go.Proofs.YtdihdapmphkhpaaGreat
