import Derived.RangeFuncWrites
import Derived.RangeFuncCalls
import Derived.Maps.OwnSet
import Derived.Test.YtdihdapmphkhpaaGreatQ39
set_option linter.all false
set_option maxRecDepth 200000
set_option maxHeartbeats 16000000
namespace Go.Proofs.YtdihdapmphkhpaaGreat
variable{a c fail k t:Int}
def okL(l:List It):Prop:=∀x∈l,x.ok
theorem okL.nil:okL []:=fun x h=>by cases h
theorem okL.cons{x:It}{l:List It}(h:x.ok)(hl:okL l):okL (x::l):=fun y hy=>by
 rcases bF.1 hy with rfl|hy
 ·exact h
 exact hl y hy
theorem okL.app{l m:List It}(h:okL l)(hm:okL m):okL (l++m):=fun y hy=>(bj.1 hy).elim (h y) (hm y)
theorem okL.one{x:It}(h:x.ok):okL [x]:=okL.nil.cons h
def LBl(t:Int):Prop:=0<=t∧t<=1000000000
theorem yr(h1:0<=c)(h2:c<=65535)(h3:0<=k)(h4:k<=4294967295):(jr c k).ok:=⟨⟨h1,h2,by simp[jr],by simp[jr],by simp[jr],by simp[jr],h3,h4⟩,⟨by simp[jr],by simp[jr]⟩,⟨by simp[jr],by simp[jr]⟩⟩
theorem rA(h1:0<=c)(h2:c<=65535)(h3:0<=k)(h4:k<=4294967295)(h5:LBl t):(fW c k t).ok:=by
 unfold LBl at h5;exact⟨⟨h1,h2,by simp[fW],by simp[fW],by simp[fW],by simp[fW],h3,h4⟩,⟨by simp[fW],by simp[fW]⟩,⟨by show _<=t;omega,by show t<=_;omega⟩⟩
theorem mz(h1:0<=c)(h2:c<=65535)(h3:0<=k)(h4:k<=4294967295)(h5:LBl t):(fq c k t).ok:=by
 unfold LBl at h5;exact⟨⟨h1,h2,by simp[fq],by simp[fq],by simp[fq],by simp[fq],h3,h4⟩,⟨by simp[fq],by simp[fq]⟩,⟨by show _<=t;omega,by show t<=_;omega⟩⟩
theorem kQ(h5:LBl t):(fe t).ok:=by
 unfold LBl at h5;exact⟨⟨by simp[fe],by simp[fe],by simp[fe],by simp[fe],by simp[fe],by simp[fe],by simp[fe],by simp[fe]⟩,⟨by simp[fe],by simp[fe]⟩,⟨by show _<=t;omega,by show t<=_;omega⟩⟩
theorem Gz{v:Nat}(h:v<18446744073709551616):0<=upH v∧upH v<=4294967295:=by unfold upH;omega
theorem Fi(v:Nat):0<=loH v∧loH v<=4294967295:=by unfold loH;omega
theorem lH(h:0<=a∧a<=1000):(fi a).ok:=yr (by omega) (by omega) (by omega) (by omega)
theorem CW{m b:Int}(ha:0<=a∧a<=1000)(hm:0<=m∧m<=4294967295)(hb:0<=b∧b<=4294967295)(hf:LBl fail):okL (ig a m b fail):=by
 unfold ig;split
 ·exact okL.nil
 refine okL.cons (lH ha) (okL.app ?_ (okL.one (mz (by omega) (by omega) hb.1 hb.2 hf)));split
 ·exact okL.nil
 exact okL.one (yr (by omega) (by omega) hm.1 hm.2)
theorem CK{c:K}{p1 p2:Int}(hc:c.ok)(ha:0<=a∧a<=900)(hf:LBl fail)(h1:LBl p1)(h2:LBl p2):okL (gO c a fail p1 p2):=by
 have u1:=Gz hc.2.1;have u2:=Gz hc.2.2;have l1:=Fi c.a;have l2:=Fi c.b;unfold gO;split
 ·exact okL.app (CW (by omega) u1 u2 hf) (CW (by omega) l1 l2 hf)
 split
 ·refine okL.app ?_ ?_
  ·unfold ly td;split
   ·exact okL.nil
   exact okL.app (okL.cons (lH (by omega)) (okL.cons (rA (by omega) (by omega) u1.1 u1.2 h1) (okL.cons (mz (by omega) (by omega) u1.1 u1.2 hf) (okL.cons (lH (by omega)) (okL.one (mz (by omega) (by omega) l1.1 l1.2 hf)))))) (okL.one (kQ h1))
  unfold jy nf;split
  ·exact okL.nil
  exact okL.app (okL.cons (lH (by omega)) (okL.cons (rA (by omega) (by omega) u2.1 u2.2 hf) (okL.cons (mz (by omega) (by omega) u2.1 u2.2 h2) (okL.cons (lH (by omega)) (okL.one (rA (by omega) (by omega) l2.1 l2.2 hf)))))) (okL.one (kQ h2))
 exact okL.nil
theorem G0(c:K)(n:Int):jZ c n<=n+2∧iS c n<=n+1∧n<=iS c n:=by
 have:iS c n<=n+1∧n<=iS c n:=by unfold iS;split<;>omega
 unfold jZ;refine⟨?_,this⟩;split
 ·split<;>omega
 omega
theorem zE(r:List K)(h:okR r){base:Int}(hf:LBl fail)(hb:0<=base∧base<=900000000):∀i:Int,0<=i->i+(r.length:Int)<=6->okL (lz r i fail base):=by
 induction r with
 |nil=>intro i _ _;exact okL.nil
 |cons c r ih=>
  intro i h0 h1;simp only[aq]at h1;refine okL.app (CK (h c (aY ..)) (by omega) hf (by unfold LBl;omega) (by unfold LBl;omega)) (ih (fun x hx=>h x (bo _ hx)) (i+1) (by omega) (by omega))
theorem yU(r:List K)(h:okR r)(hf:LBl fail):∀i n:Int,0<=i->i+(r.length:Int)<=6->0<=n->n+2*(r.length:Int)<=900000000->okL (ja r i fail n):=by
 induction r with
 |nil=>intro i n _ _ _ _;exact okL.nil
 |cons c r ih=>
  intro i n h0 h1 h2 h3;simp only[aq]at h1 h3;have g:=G0 c n;have g2:=yv c n;refine okL.app (CK (h c (aY ..)) (by omega) hf (by unfold LBl;omega) (by unfold LBl;omega)) (ih (fun x hx=>h x (bo _ hx)) (i+1) _ (by omega) (by omega) (by omega) (by omega))
theorem qV(h:0<=k∧k<=4294967295):(jQ k).ok:=yr (by omega) (by omega) h.1 h.2
theorem F9(rs:List (List K))(h:uC rs)(h6:∀r∈rs,r.length<=6):∀f:Int,0<=f->f+13*(rs.length:Int)<=800000000->okL (iU rs f):=by
 induction rs with
 |nil=>intro f _ _;exact okL.nil
 |cons r rs ih=>
  intro f h0 h1;have g1:=h r (aY ..);have g2:=h6 r (aY ..);simp only[aq]at h1
  cases rs with
  |nil=>exact okL.app (zE r g1 (by unfold LBl;omega) (by omega) 0 (by omega) (by omega)) (okL.one (qV (by omega)))
  |cons q rs=>
   refine okL.app (okL.app (okL.app (zE r g1 (by unfold LBl;omega) (by omega) 0 (by omega) (by omega)) (okL.one (qV (by omega)))) (okL.one (kQ (by unfold LBl;omega)))) (ih (fun x hx=>h x (bo _ hx)) (fun x hx=>h6 x (bo _ hx)) (f+13) (by omega) (by simp only[aq]at h1⊢;omega))
theorem G7(rs:List (List K))(h:uC rs)(h6:∀r∈rs,r.length<=6):∀n:Int,0<=n->n+13*(rs.length:Int)<=800000000->okL (jw rs n):=by
 induction rs with
 |nil=>intro f _ _;exact okL.nil
 |cons r rs ih=>
  intro n h0 h1;have g1:=h r (aY ..);have g2:=h6 r (aY ..);simp only[aq]at h1
  cases rs with
  |nil=>exact okL.app (yU r g1 (by unfold LBl;omega) 0 n (by omega) (by omega) (by omega) (by omega)) (okL.one (qV (by omega)))
  |cons q rs=>
   have h2:=oB r (n+1);have h3:=kZ r (n+1);refine okL.app (okL.app (okL.app (yU r g1 (by unfold LBl;omega) 0 (n+1) (by omega) (by omega) (by omega) (by omega)) (okL.one (qV (by omega)))) (okL.one (kQ (by unfold LBl;omega)))) (ih (fun x hx=>h x (bo _ hx)) (fun x hx=>h6 x (bo _ hx)) _ (by omega) (by simp only[aq]at h1⊢;omega))
theorem iu(es:List E):iO es=(es.length:Int)+13*(gN es:Int):=rfl
def ok2(e:E):Prop:=(0<=e.et∧e.et<=4294967295)∧(0<=e.nr∧e.nr<=4294967295)
theorem sZ{es:List E}(h:∀e∈es,ok2 e)(i:Nat):ok2 (es.getD i E.zero):=by
 by_cases hi:i<es.length
 ·rw[aa,ag hi];exact h _ (aI hi)
 rw[aa,bw (by omega)];exact⟨⟨by decide,by decide⟩,⟨by decide,by decide⟩⟩
theorem Ft(k:Nat):∀(es:List E)(f:Int),(∀e∈es,WrE e)->(∀e∈es,ok2 e)->1<=es.length->es.length<=k->0<=f->f+(2*(es.length:Int)+13*(gN es:Int))<=700000000->okL (gM k es f):=by
 induction k with
 |zero=>intro es f _ _ h1 h2;omega
 |succ k ih=>
  intro es f h ho h1 h2 h3 h4;simp only[gM];by_cases hl:es.length<=1
  ·rw[if_pos hl];have hw:=pV h (i:=0) (by omega);have g3:=ns es 0;have o:=(sZ ho 0).2;exact okL.cons (mz (by omega) (by omega) o.1 o.2 (by unfold LBl;omega)) (F9 _ hw.1 hw.2.1 f h3 (by omega))
  rw[if_neg hl];have ht:(es.take (es.length/2)).length=es.length/2:=by simp;omega
  have hd:(es.drop (es.length/2)).length=es.length-es.length/2:=by simp
  have hs:=fX es (es.length/2);have o:=(sZ ho (es.length/2)).2;refine okL.app (okL.app (okL.cons (rA (by omega) (by omega) o.1 o.2 (by unfold LBl;omega)) (ih _ _ (fun e he=>h e (aB he)) (fun e he=>ho e (aB he)) (by omega) (by omega) (by omega) ?_)) (okL.one (kQ (by unfold LBl;omega)))) (ih _ _ (fun e he=>h e (aQ he)) (fun e he=>ho e (aQ he)) (by omega) (by omega) ?_ ?_)
  ·rw[ht];omega
  ·rw[iu,ht];omega
  rw[iu,ht,hd];omega
theorem FO(k:Nat):∀(es:List E)(n:Int),(∀e∈es,WrE e)->(∀e∈es,ok2 e)->1<=es.length->es.length<=k->0<=n->n+iO es<=700000000->okL (fV k es n):=by
 induction k with
 |zero=>intro es f _ _ h1 h2;omega
 |succ k ih=>
  intro es n h ho h1 h2 h3 h4;rw[iu]at h4;simp only[fV];by_cases hl:es.length<=1
  ·rw[if_pos hl];have hw:=pV h (i:=0) (by omega);have g3:=ns es 0;have o:=(sZ ho 0).2;exact okL.cons (mz (by omega) (by omega) o.1 o.2 (by unfold LBl;omega)) (G7 _ hw.1 hw.2.1 n h3 (by omega))
  rw[if_neg hl];have ht:(es.take (es.length/2)).length=es.length/2:=by simp;omega
  have hd:(es.drop (es.length/2)).length=es.length-es.length/2:=by simp
  have hs:=fX es (es.length/2);have o:=(sZ ho (es.length/2)).2;obtain⟨a1,a2⟩:=kC k (es.take (es.length/2)) (n+1) (fun e he=>h e (aB he)) (by omega) (by omega);have a3:=kj k (es.take (es.length/2)) (n+1);rw[ht]at a2;refine okL.app (okL.app (okL.cons (rA (by omega) (by omega) o.1 o.2 (by unfold LBl;omega)) (ih _ _ (fun e he=>h e (aB he)) (fun e he=>ho e (aB he)) (by omega) (by omega) (by omega) ?_)) (okL.one (kQ (by unfold LBl;omega)))) (ih _ _ (fun e he=>h e (aQ he)) (fun e he=>ho e (aQ he)) (by omega) (by omega) (by omega) ?_)
  ·rw[iu,ht];omega
  rw[iu,hd];omega
theorem Gx(k:Nat):∀(es:List E)(f:Int),(∀e∈es,WrE e)->(∀e∈es,ok2 e)->0<=f->f+3*(es.length:Int)+13*(gN es:Int)<=600000000->okL (mB k es f):=by
 induction k with
 |zero=>intro es f _ _ _ _;exact okL.nil
 |succ k ih=>
  intro es f h ho h3 h4;simp only[mB];by_cases hl:es.length=0
  ·rw[if_pos hl];exact okL.nil
  rw[if_neg hl];have hp:=kK (es:=es) (by omega);have hle:=kR es;have ht:(es.take (ew es)).length=ew es:=by simp;omega
  have hd:(es.drop (ew es)).length=es.length-ew es:=by simp
  have hs:=fX es (ew es);have o:=(sZ ho 0).1;refine okL.app (okL.app (okL.cons (mz (by omega) (by omega) o.1 o.2 (by unfold LBl;omega)) (okL.cons (lH (by omega)) (Ft _ _ _ (fun e he=>h e (aB he)) (fun e he=>ho e (aB he)) (by omega) (by omega) (by omega) ?_))) (okL.one (kQ (by unfold LBl;omega)))) (ih _ _ (fun e he=>h e (aQ he)) (fun e he=>ho e (aQ he)) ?_ ?_)
  ·rw[ht];omega
  ·rw[iu,ht];omega
  rw[iu,ht,hd];omega
theorem GG(k:Nat):∀(es:List E)(n:Int),(∀e∈es,WrE e)->(∀e∈es,ok2 e)->0<=n->n+2*(es.length:Int)+13*(gN es:Int)<=600000000->okL (jO k es n):=by
 induction k with
 |zero=>intro es f _ _ _ _;exact okL.nil
 |succ k ih=>
  intro es n h ho h3 h4;simp only[jO];by_cases hl:es.length=0
  ·rw[if_pos hl];exact okL.nil
  rw[if_neg hl];have hp:=kK (es:=es) (by omega);have hle:=kR es;have ht:(es.take (ew es)).length=ew es:=by simp;omega
  have hd:(es.drop (ew es)).length=es.length-ew es:=by simp
  have hs:=fX es (ew es);have o:=(sZ ho 0).1;obtain⟨a1,a2⟩:=kC (ew es) (es.take (ew es)) (n+1) (fun e he=>h e (aB he)) (by omega) (by omega);have a3:=kj (ew es) (es.take (ew es)) (n+1);rw[ht]at a2;refine okL.app (okL.app (okL.cons (mz (by omega) (by omega) o.1 o.2 (by unfold LBl;omega)) (okL.cons (lH (by omega)) (FO _ _ _ (fun e he=>h e (aB he)) (fun e he=>ho e (aB he)) (by omega) (by omega) (by omega) ?_))) (okL.one (kQ (by unfold LBl;omega)))) (ih _ _ (fun e he=>h e (aQ he)) (fun e he=>ho e (aQ he)) (by omega) ?_)
  ·rw[iu,ht];omega
  rw[hd];omega
theorem DK(p:List E)(h:∀e∈p,WrE e)(ho:∀e∈p,ok2 e)(hb:3*p.length+13*gN p<=500000000):okL (js p):=by
 unfold js;split
 ·exact okL.one (qV (by omega))
 exact okL.app (okL.app (okL.cons (lH (by omega)) (Gx _ _ _ h ho (by omega) (by omega))) (okL.one (kQ (by unfold LBl;omega)))) (okL.one (qV (by omega)))
theorem xp(p:List E)(h:∀e∈p,WrE e)(ho:∀e∈p,ok2 e)(hb:3*p.length+13*gN p<=500000000):okL (iY p):=by
 unfold iY;refine okL.app (okL.app (okL.app ?_ (GG _ _ _ h ho (by omega) (by omega))) (okL.one (kQ (by unfold LBl;omega)))) (okL.one (qV (by omega)));split
 ·exact okL.nil
 exact okL.one (lH (by omega))
theorem wS(l:List K)(fail base:Int):∀i,(lz l i fail base).length<=12*l.length:=by
 induction l with
 |nil=>intro i;simp[lz]
 |cons c l ih=>
  intro i;have h1:=si c (16+8*i) fail (base+1+2*i) (base+1+2*i+1);have h2:=ih (i+1);simp only[lz,aj,aq];omega
theorem sq(l:List (List K))(h:∀r∈l,r.length<=6):∀f,(iU l f).length<=74*l.length:=by
 induction l with
 |nil=>intro n;simp[iU]
 |cons r l ih=>
  intro f;have h3:=h r (aY ..)
  cases l with
  |nil=>have:=wS r 0 f 0;simp only[iU,uR,aj,aq,aU];omega
  |cons q l=>
   have h1:=ih (fun x hx=>h x (bo _ hx)) (f+13);have h2:=wS r f f 0;simp only[iU,uR,aj,aq,aU]at h1⊢;omega
theorem qf(k:Nat):∀(es:List E)(f:Int),(∀e∈es,WrE e)->1<=es.length->es.length<=k->(gM k es f).length+2<=74*gN es+3*es.length:=by
 induction k with
 |zero=>intro es n h h1 h2;omega
 |succ k ih=>
  intro es f h h1 h2;simp only[gM];by_cases hl:es.length<=1
  ·rw[if_pos hl];have hw:=pV h (i:=0) (by omega);have g1:=sq _ hw.2.1 f;have g3:=ns es 0;simp only[aq];omega
  rw[if_neg hl];have ht:(es.take (es.length/2)).length=es.length/2:=by simp;omega
  have hd:(es.drop (es.length/2)).length=es.length-es.length/2:=by simp
  have a1:=ih (es.take (es.length/2)) (f+1) (fun e he=>h e (aB he)) (by omega) (by omega);have b1:=ih (es.drop (es.length/2)) (f+1+iO (es.take (es.length/2))) (fun e he=>h e (aQ he)) (by omega) (by omega);have hs:=fX es (es.length/2);rw[ht]at a1;rw[hd]at b1;simp only[aj,aq,aU];omega
theorem xj(k:Nat):∀(es:List E)(f:Int),(∀e∈es,WrE e)->(mB k es f).length<=74*gN es+4*es.length:=by
 induction k with
 |zero=>intro es f _;simp[mB]
 |succ k ih=>
  intro es f h;simp only[mB];by_cases hl:es.length=0
  ·rw[if_pos hl];simp
  rw[if_neg hl];have hp:=kK (es:=es) (by omega);have hle:=kR es;have ht:(es.take (ew es)).length=ew es:=by simp;omega
  have hd:(es.drop (ew es)).length=es.length-ew es:=by simp
  have hs:=fX es (ew es);have a1:=qf (ew es) (es.take (ew es)) (f+1) (fun e he=>h e (aB he)) (by omega) (by omega);have b1:=ih (es.drop (ew es)) (f+(1+iO (es.take (ew es)))) (fun e he=>h e (aQ he));rw[ht]at a1;rw[hd]at b1;simp only[aj,aq,aU];omega
theorem Ds(k:Nat):∀(es:List E)(n:Int),(∀e∈es,WrE e)->(jO k es n).length<=74*gN es+4*es.length:=by
 induction k with
 |zero=>intro es f _;simp[jO]
 |succ k ih=>
  intro es n h;simp only[jO];by_cases hl:es.length=0
  ·rw[if_pos hl];simp
  rw[if_neg hl];have hp:=kK (es:=es) (by omega);have hle:=kR es;have ht:(es.take (ew es)).length=ew es:=by simp;omega
  have hd:(es.drop (ew es)).length=es.length-ew es:=by simp
  have hs:=fX es (ew es);have a1:=(kC (ew es) (es.take (ew es)) (n+1) (fun e he=>h e (aB he)) (by omega) (by omega)).1;have b1:=ih (es.drop (ew es)) (fK (ew es) (es.take (ew es)) (n+1)) (fun e he=>h e (aQ he));rw[ht]at a1;rw[hd]at b1;simp only[aj,aq,aU];omega
theorem BK(p:List E)(h:∀e∈p,WrE e):(js p).length<=74*gN p+4*p.length+3:=by
 have:=xj p.length p 1 h;unfold js;split
 ·simp
 simp only[aj,aq,aU];omega
theorem Bu(p:List E)(h:∀e∈p,WrE e):(iY p).length<=74*gN p+4*p.length+3:=by
 have:=Ds p.length p 0 h;unfold iY;split
 ·simp only[aj,aq,aU];omega
 simp only[aj,aq,aU];omega
theorem BN(p:List E):gN p=fp p:=by
 induction p with
 |nil=>rfl
 |cons e p ih=>simp only[gN,fp,List.map_cons,List.sum_cons]at ih⊢;omega
theorem sS{p:List E}(hv:eW p=true)(ho:okP p):(∀e∈p,WrE e)∧(∀e∈p,ok2 e)∧gN p<=1000∧p.length<=1000:=by
 unfold eW at hv;simp only[aL,decide_eq_true_eq]at hv;obtain⟨h1,h2⟩:=hv;have hE:∀e∈p,gP e=true:=fun e he=>by
  obtain⟨i,hi,rfl⟩:=bH he;have:=bC.1 h1 i (bD.2 hi);unfold fS at this;simp only[aL]at this;have h:=this.2;rw[aa,ag hi]at h;exact h
 have hW:∀e∈p,WrE e:=fun e he=>by
  have:=hE e he;unfold gP at this;simp only[aL,decide_eq_true_eq,bC]at this;obtain⟨⟨g1,g2⟩,g3⟩:=this;refine⟨(ho e he).2.2,fun r hr=> ?_,g1,by omega⟩;have:=g3 r hr;unfold eG at this;simp only[aL,beq_iff_eq]at this;omega
 have hL:∀q:List E,(∀e∈q,WrE e)->q.length<=fp q:=fun q=>by
  induction q with
  |nil=>intro _;simp
  |cons e q ih=>
   intro h;have g1:=(h e (aY ..)).2.2.1;have g2:=ih (fun x hx=>h x (bo _ hx));simp only[fp,aq];omega
 have:=hL p hW;refine⟨hW,fun e he=>⟨(ho e he).1,(ho e he).2.1⟩,by rw[BN];exact h2,by omega⟩
theorem yu{α:Type}(d:α){l:List α}{k:Nat}(h:k<l.length):l.drop k=l.getD k d::l.drop (k+1):=by
 rw[cw h,aa,ag h];rfl
theorem CA{r:List K}{k:Nat}(h:k<r.length)(fail base:Int):lz (r.drop k) (k:Int) fail base=gO (r.getD k K.zero) (16+8*(k:Int)) fail (base+1+2*(k:Int)) (base+1+2*(k:Int)+1)++lz (r.drop (k+1)) ((k+1:Nat):Int) fail base:=by
 rw[yu K.zero h];rfl
def AK(m i:Nat)(f:Int):Int:=if i+1=m then 0 else f
theorem Bk{rs:List (List K)}{i:Nat}(h:i<rs.length)(f:Int):iU (rs.drop i) f=(lz (rs.getD i []) 0 (AK rs.length i f) f++[jQ 2147418112])++((if i+1=rs.length then []else [fe f])++iU (rs.drop (i+1)) (f+13)):=by
 rw[yu [] h];unfold AK;by_cases hl:i+1=rs.length
 ·rw[if_pos hl,if_pos hl];have:rs.drop (i+1)=[]:=List.drop_eq_nil_of_le (by omega);rw[this];simp only[iU,uR,bM]
 rw[if_neg hl,if_neg hl,yu [] (l:=rs) (k:=i+1) (by omega)];simp only[iU,uR,aF]
theorem DL{es:List E}{i:Nat}(h:i<es.length):gN (es.take (i+1))=gN (es.take i)+(es.getD i E.zero).rules.length:=by
 induction es generalizing i with
 |nil=>simp at h
 |cons e es ih=>
  cases i with
  |zero=>simp[gN]
  |succ i=>
   have:=ih (i:=i) (by simpa using h);simp only[gN,List.take_succ_cons,List.map_cons,List.sum_cons,List.getD_cons_succ]at this⊢;omega
theorem GZ(es:List E):gN (es.take es.length)=gN es:=by rw[ct]
def WrM(e:E):Prop:=∀r∈e.rules,r.length=6∧∀c∈r,K3 c
theorem DH{p:List E}(hv:eW p=true):∀e∈p,WrM e:=by
 unfold eW at hv;simp only[aL,decide_eq_true_eq]at hv;intro e he r hr;obtain⟨i,hi,rfl⟩:=bH he;have:=bC.1 hv.1 i (bD.2 hi);unfold fS at this;simp only[aL]at this;have h:=this.2;rw[aa,ag hi]at h;simp only[Option.getD_some]at h;unfold gP at h;simp only[aL,decide_eq_true_eq,bC]at h;have h2:=h.2 r hr;unfold eG at h2;simp only[aL,beq_iff_eq,bC]at h2;refine⟨h2.1,fun c hc=> ?_⟩;have h3:=h2.2 c hc;unfold eI at h3;unfold K3;by_cases g0:c.kind=0
 ·exact .inl g0
 by_cases g1:c.kind=1
 ·exact .inr (.inl g1)
 by_cases g2:c.kind=2
 ·exact .inr (.inr g2)
 simp[g0,g1,g2]at h3
end Go.Proofs.YtdihdapmphkhpaaGreat
namespace Go.Proofs.YtdihdapmphkhpaaGreat
open Go.RowKit
variable{Bm L n:Nat}{d:Int}{m:Mk}{p:List I}{v:Value}{w:World}{x:It}
theorem GF{k:Nat}(h:k<p.length):(p.drop k).reverse=(p.drop (k+1)).reverse++[p.getD k I.zero]:=by
 rw[cw h,List.reverse_cons,aa,ag h];rfl
theorem Src.at{w:World}{a:Option Addr}{p:List I}(h:Src w a p){i:Nat}(hi:i<p.length):∃b o,a=some ⟨b,o,none⟩∧b<w.heap.size∧w.cell? ⟨b,o+i*4,none⟩=some (.int .u16 (p.getD i I.zero).c)∧w.cell? ⟨b,o+i*4+1,none⟩=some (.int .u8 (p.getD i I.zero).jt)∧w.cell? ⟨b,o+i*4+2,none⟩=some (.int .u8 (p.getD i I.zero).jf)∧w.cell? ⟨b,o+i*4+3,none⟩=some (.int .u32 (p.getD i I.zero).k):=by
 rcases h with rfl|⟨b,o,rfl,hb,hp⟩
 ·simp at hi
 exact⟨b,o,rfl,hb,hp i hi⟩
def ud(l:List It)(w:World)(e:Ending)(w':World):Prop:=∃v,e=.returned (.tuple #[v,.int .i64 (tR l)])∧gS w' w.heap.size v (sH l)∧Below w.heap.size w w'
def AD(w w':World):Prop:=∀(q:Nat)(c:Array Value)(t:TypeId)(f:Nat×Nat),w.heap[q]? =some (.cells c t f)->t≠68->t≠107->w'.heap[q]? =some (.cells c t f)
theorem AD.gG{w':World}(h:Below w.heap.size w w'):AD w w':=fun q c t f hq _ _=>(h.block q (bf.1 hq).1).trans hq
structure KB(B:Nat)(w w':World):Prop where
 b:Below B w w'
 k:KeepsOthers w w'
 f:AD w w'
theorem KB.refl(B:Nat)(w:World):KB B w w:=⟨af _ _,KeepsOthers.refl _,fun _ _ _ _ h _ _=>h⟩
theorem KB.trans{B:Nat}{a b c:World}(h:KB B a b)(k:KB B b c):KB B a c:=⟨h.b.trans k.b,h.k.trans k.k,fun q cc t f h0 h1 h2=>k.f q cc t f (h.f q cc t f h0 h1 h2) h1 h2⟩
theorem KB.alloc{B:Nat}{a b:World}(h:KB B a b)(hB:B<=b.heap.size)(o:Obj):KB B a (b.alloc o):=h.trans ⟨(af _ _).alloc hB o,KeepsOthers.alloc _ _,AD.gG ((af _ _).alloc (ae _) o)⟩
theorem KB.drew{B:Nat}{a b:World}(h:KB B a b):KB B a b.drew:=h.trans ⟨(af _ _).drew,KeepsOthers.drew _,AD.gG (af _ _).drew⟩
theorem KB.mono{B B':Nat}{a b:World}(h:KB B a b)(hB:B'<=B):KB B' a b:=⟨h.b.mono hB,h.k,h.f⟩
theorem xA{B e s:Nat}{xs:List Value}(h:w.ownsRow B e s v n xs)(j:Nat)(o:Obj)(hj:v.ownBlock=some j)(ho:w.heap[j]? =some o):o.isCells=true:=by
 obtain⟨_,⟨rfl,_⟩|⟨g,cap,cur,rfl,hb,hgc,_⟩⟩:=h
 ·cases hj
 have:g=j:=by simpa[Value.ownBlock]using hj
 subst this;rw[hgc]at ho;cases ho;rfl
theorem Gv{B e s q:Nat}{xs:List Value}(h:w.ownsRow B e s v n xs)(hj:v.ownBlock=some q){c:Array Value}{t:TypeId}{f:Nat×Nat}(hq:w.heap[q]? =some (.cells c t f)):t=e:=by
 obtain⟨_,⟨rfl,_⟩|⟨g,cap,cur,rfl,hb,hgc,_⟩⟩:=h
 ·cases hj
 have:g=q:=by simpa[Value.ownBlock]using hj
 subst this;rw[hgc]at hq;cases hq;rfl
def Bp(w:World)(Bm n:Nat)(m:Mk):Prop:=∃D:DataW Unit,w.ownsMap Tryz.prog 3 (plainElem Tryz.prog 3) Bm n D∧
 (∀t,(Lit.int .i64 t).wf=true->m t=none->Maps.has D (.int .i64 t)=false)∧(∀t a,m t=some a->Maps.has D (.int .i64 t)=true∧∀z,D.atKey (.int .i64 t) z=.lit (.int .i64 (a:Int)))
structure jI(w:World)(L Bm n:Nat)(v:Value)(p:List I)(m:Mk):Prop where
 bm:Bm<L
 c0:w.cell? ⟨L,0,none⟩=some v
 c1:w.cell? ⟨L,1,none⟩=some (.map (some Bm))
 f0:w.frozen? ⟨L,0,none⟩=false
 ty:∃c f,w.heap[L]? =some (.cells c 107 f)
 own:gS w (L+1) v p
 mp:Bp w Bm n m
theorem jI.lt(h:jI w L Bm n v p m):L<w.heap.size:=fA h.c0
theorem jI.ey{w':World}(h:jI w L Bm n v p m)(hb:Below w.heap.size w w'):jI w' L Bm n v p m:=by
 obtain⟨D,h1,h2,h3⟩:=h.mp;exact⟨h.bm,(hb.cell (p:=⟨L,0,none⟩) h.lt).trans h.c0,(hb.cell (p:=⟨L,1,none⟩) h.lt).trans h.c1,(hb.frozen (p:=⟨L,0,none⟩) h.lt).trans h.f0,(by obtain⟨c,f,e⟩:=h.ty;exact⟨c,f,(hb.block L h.lt).trans e⟩),jE h.own hb,D,h1.kept (row:=none) ⟨hb.os,hb.tape,hb.output,hb.size,fun k hk _=>hb.block k hk⟩ (by simp),h2,h3⟩
def AM(L:Nat)(v:Value)(w w':World):Prop:=∀q,q<w.heap.size->q≠L->some q≠v.ownBlock->w'.heap[q]? =w.heap[q]?
theorem jI.next{w1:World}{gg cap:Nat}{x:I}{H:Nat}(h:jI w L Bm n v p m)
 (hown:w1.ownsRow (L+1) 68 4 (.slice (some ⟨gg,0,none⟩) (p.length+1) cap) (p.length+1) (ff p++insC x))(hg:w.grownBy w1 v.ownBlock):
 w1.cell? ⟨L,0,none⟩=some v∧w1.frozen? ⟨L,0,none⟩=false∧jI (w1.setCell ⟨L,0,none⟩ (.slice (some ⟨gg,0,none⟩) (p.length+1) cap)) L Bm n (.slice (some ⟨gg,0,none⟩) (p.length+1) cap) (p++[x]) m∧KB L w (w1.setCell ⟨L,0,none⟩ (.slice (some ⟨gg,0,none⟩) (p.length+1) cap))∧AM L v w (w1.setCell ⟨L,0,none⟩ (.slice (some ⟨gg,0,none⟩) (p.length+1) cap)):=by
 have hlt:=h.lt
 have ne:some L≠v.ownBlock:=fun e=>by have:=(h.own.lt L e.symm).1;omega
 have ne2:some Bm≠v.ownBlock:=fun e=>by have:=(h.own.lt Bm e.symm).1;have:=h.bm;omega
 have x1:=(hg.cell_far ⟨L,0,none⟩ hlt ne).trans h.c0
 have x2:=(hg.frozen_far ⟨L,0,none⟩ hlt ne).trans h.f0
 have x3:=(hg.cell_far ⟨L,1,none⟩ hlt ne).trans h.c1
 obtain⟨D,d1,d2,d3⟩:=h.mp
 obtain⟨cy,fy,hy⟩:=h.ty
 have x6:=(hg.block L hlt ne).trans hy
 have hB:Below L w w1:=(af L w).grown hg (bJ hlt) (fun z hz=>by have:=(h.own.lt z hz).1;omega)
 refine⟨x1,x2,⟨h.bm,aG _ _ _ x1,by rw[aJ _ _ _ _ (by intro e;injection e with e1 e2;cases e2)];exact x3,by rw[bZ];exact x2,⟨_,fy,by simp only[World.setCell,aH];rw[if_pos trivial,x6];rfl⟩,?_,D,(d1.kept hg ne2).setCell (by have:=h.bm;show Bm≠L;omega) _,d2,d3⟩,⟨hB.setCell (p:=⟨L,0,none⟩) (ae _) _,(KeepsOthers.of_grownBy hg (xA h.own)).trans (KeepsOthers.setCell _ _ _),fun q c t f hq h1 h2=>by
  have hqL:q≠L:=fun e=>by subst e;rw[hy]at hq;cases hq;exact h2 rfl
  have hqv:some q≠v.ownBlock:=fun e=>h1 (Gv h.own e.symm hq)
  rw[show(w1.setCell ⟨L,0,none⟩ (.slice (some ⟨gg,0,none⟩) (p.length+1) cap)).heap[q]? =w1.heap[q]? by
   simp only[World.setCell,aH]
   rw[if_neg (fun e=>hqL e.symm)]]
  exact(hg.block q (bf.1 hq).1 hqv).trans hq⟩,fun q hq h1 h2=>by
  rw[show(w1.setCell ⟨L,0,none⟩ (.slice (some ⟨gg,0,none⟩) (p.length+1) cap)).heap[q]? =w1.heap[q]? by
   simp only[World.setCell,aH]
   rw[if_neg (fun e=>h1 e.symm)]]
  exact hg.block q hq h2⟩
 have o1:gS w1 (L+1) (.slice (some ⟨gg,0,none⟩) (p.length+1) cap) (p++[x]):=iG rfl hown
 refine qO (row:=some L) o1 ?_ (fun q hq e=>by have:=(o1.lt q hq).1;cases e;omega)
 refine⟨rfl,rfl,rfl,by simp[World.setCell],fun i hi hne=> ?_⟩
 simp only[World.setCell,aH]
 rw[if_neg (fun e=>hne (by rw[e]))]
theorem AR(c jt jf k:Int)(b:Bool)(n:Int)(w:World):
 Calls Tryz.prog 127 #[kD c jt jf k,.bool b,.int .u8 n] w fun e w'=>e=.returned (kD (kG ⟨c,jt,jf,k⟩ b n).c (kG ⟨c,jt,jf,k⟩ b n).jt (kG ⟨c,jt,jf,k⟩ b n).jf (kG ⟨c,jt,jf,k⟩ b n).k)∧KB w.heap.size w w':=by
 have HB:Hid (∀o1 o2,KB w.heap.size w ((w.alloc o1).alloc o2)):=fun o1 o2=>((KB.refl _ w).alloc (ae _) o1).alloc (by simp) o2
 cases b with
 |true=>
  simp only[kG,if_true];go_enter Tryz.func127,Tryz.ntmps127;go_wp2;refine bodyPost_ret (v:=kD c n 0 k) (by simp[results,Tryz.results127,go_sem]) rfl ⟨rfl,?_⟩;first|exact HB.out _ _|skip
 |false=>
  simp only[kG,Bool.false_eq_true,if_false];go_enter Tryz.func127,Tryz.ntmps127;go_wp2;refine bodyPost_ret (v:=kD c 0 n k) (by simp[results,Tryz.results127,go_sem]) rfl ⟨rfl,?_⟩;first|exact HB.out _ _|skip
theorem C5(w:World)(L Bm n:Nat)(v:Value)(p:List I)(m:Mk)(x:I)(hS:jI w L Bm n v p m)(hn:p.length<=1000000):
 Calls Tryz.prog 99 #[.pointer (some ⟨L,0,none⟩),kD x.c x.jt x.jf x.k] w fun e w'=>e=.returned (.tuple #[])∧(∃v',jI w' L Bm n v' (p++[x]) m)∧KB L w w'∧AM L v w w':=by
 obtain⟨c,jt,jf,k⟩:=x;simp only;obtain⟨i0,hi,hz0,hz1,hz2⟩:=info_parts AX;have hbm:p.length+1<=maxLen:=by unfold maxLen;omega
 have hbd:(p.length+1)*8<=140737488355328:=by omega
 have K0:KB L w (w.alloc (.cells #[.int .u16 c,.int .u8 jt,.int .u8 jf,.int .u32 k] 68)).drew:=(((KB.refl L w).alloc (bJ hS.lt) _)).drew;have HFr:Hid (∀ob w',AM L v ((w.alloc (.cells #[.int .u16 c,.int .u8 jt,.int .u8 jf,.int .u32 k] 68)).drew.alloc ob) w'->AM L v w w'):=fun ob w' h q hq h1 h2=>by
  have hb:Below w.heap.size w ((w.alloc (.cells #[.int .u16 c,.int .u8 jt,.int .u8 jf,.int .u32 k] 68)).drew.alloc ob):=(((af _ _).alloc (ae _) _).drew).alloc (by simp) _;exact(h q (an hq hb.size) h1 h2).trans (hb.block q hq)
 have S0:=hS.ey ((af _ _).alloc (ae _) (.cells #[.int .u16 c,.int .u8 jt,.int .u8 jf,.int .u32 k] 68));have q0:(w.alloc (.cells #[.int .u16 c,.int .u8 jt,.int .u8 jf,.int .u32 k] 68)).cell? ⟨w.heap.size,0,none⟩=some (.int .u16 c):=by simp
 have q1:(w.alloc (.cells #[.int .u16 c,.int .u8 jt,.int .u8 jf,.int .u32 k] 68)).cell? ⟨w.heap.size,1,none⟩=some (.int .u8 jt):=by simp
 have q2:(w.alloc (.cells #[.int .u16 c,.int .u8 jt,.int .u8 jf,.int .u32 k] 68)).cell? ⟨w.heap.size,2,none⟩=some (.int .u8 jf):=by simp
 have q3:(w.alloc (.cells #[.int .u16 c,.int .u8 jt,.int .u8 jf,.int .u32 k] 68)).cell? ⟨w.heap.size,3,none⟩=some (.int .u32 k):=by simp
 have hc0:=S0.c0;go_enter Tryz.func99,Tryz.ntmps99;go_wp2_with fail;generalize(w.alloc (.cells #[.int .u16 c,.int .u8 jt,.int .u8 jf,.int .u32 k] 68))=W at*;have S1:=S0.ey (af _ _).drew;have hcd:=S1.c0;have hlt:=S1.lt;have ha:∀ob,(W.alloc ob).cell? ⟨L,0,none⟩=some v:=fun ob=>eh ((af _ _).alloc (ae _) ob) S0.c0
 have d0:W.drew.cell? ⟨w.heap.size,0,none⟩=some (.int .u16 c):=q0;have d1:W.drew.cell? ⟨w.heap.size,1,none⟩=some (.int .u8 jt):=q1;have d2:W.drew.cell? ⟨w.heap.size,2,none⟩=some (.int .u8 jf):=q2;have d3:W.drew.cell? ⟨w.heap.size,3,none⟩=some (.int .u32 k):=q3;go_region_law(refine step_append_lies _ (by rfl) _ _ _ (by rfl) (L+1) 68 i0 _ 4 8 Tryz.underlying34 hi hz0 hz1 hz2 rfl (by omega) v p.length (ff p) (by rfl) (S1.own.alloc _) ⟨W.heap.size,0,none⟩ 1 1 [.int .u16 c,.int .u8 jt,.int .u8 jf,.int .u32 k] (by rfl) (by rfl) (World.news_of_block (t:=68) (fr:=(0,0)) (heap_alloc_new W.drew _)) (by simp[Value.oneCell']) (by omega) hbm hbd (by simp at hlt⊢;omega) (W.heap.size+1) (by simp) ?_;intro gg cap2 w1 hown1 hgrow hat hlt2;obtain⟨x1,x2,x3,x4,x5⟩:=jI.next (x:=⟨c,jt,jf,k⟩) (H:=0) (S1.ey ((af _ _).alloc (ae _) _)) hown1 hgrow);all_goals
  have HF:Hid _:=And.intro x3 (And.intro ((K0.trans ((KB.refl L W.drew).alloc (bJ hlt) _)).trans x4) (HFr.out _ _ x5));clear x3 x4 x5 HFr hown1 hgrow hat hlt2 S0 S1 hS K0 q0 q1 q2 q3 hcd ha d0 d1 d2 d3;go_wp2;go_end0;exact⟨rfl,⟨_,HF.out.1⟩,HF.out.2⟩
theorem AM.below{w1 w2:World}(h:AM L v w1 w2)(hb:Below w.heap.size w w1):AM L v w w2:=fun q hq h1 h2=>(h q (an hq hb.size) h1 h2).trans (hb.block q hq)
def Bj(L Bm n:Nat)(p:List I)(m:Mk)(w:World)(e:Ending)(w':World):Prop:=e=.returned (.tuple #[])∧(∃v',jI w' L Bm n v' p m)∧KB L w w'
theorem brI3(h:x.kind=3):brI x d=[⟨5,0,0,d⟩]:=by unfold brI;rw[if_pos h]
theorem brIn(h:x.kind≠3)(hd:d<=255):brI x d=[kG x.ins (x.kind==1) d]:=by unfold brI;rw[if_neg h,if_pos hd]
theorem brIf(h:x.kind≠3)(hd:¬d<=255):brI x d=[⟨5,0,0,d⟩]++[kG x.ins (!(x.kind==1)) 1]:=by unfold brI;rw[if_neg h,if_neg hd];rfl
theorem BS(w:World)(L Bm n:Nat)(v:Value)(p:List I)(m:Mk)(x:It)(d:Int)(hS:jI w L Bm n v p m)(hn:p.length<=900000)(hd0:0<=d)(hd1:d<=1000000):
 Calls Tryz.prog 100 #[.pointer (some ⟨L,0,none⟩),itV x,.int .i64 d] w fun e w'=>Bj L Bm n (p++brI x d) m w e w':=by
 have HA:Hid (∀w1 v1 p1 c jt jf k,jI w1 L Bm n v1 p1 m->p1.length<=1000000->Calls Tryz.prog 99 #[.pointer (some ⟨L,0,none⟩),kD c jt jf k] w1 fun e w'=>e=.returned (.tuple #[])∧(∃v',jI w' L Bm n v' (p1++[⟨c,jt,jf,k⟩]) m)∧KB L w1 w'∧AM L v1 w1 w'):=fun w1 v1 p1 c jt jf k h hp=>C5 w1 L Bm n v1 p1 m ⟨c,jt,jf,k⟩ h hp
 have HT:Hid (∀w1 c jt jf k b q,Calls Tryz.prog 127 #[kD c jt jf k,.bool b,.int .u8 q] w1 fun e w'=>∃c' jt' jf' k',(⟨c',jt',jf',k'⟩:I)=kG ⟨c,jt,jf,k⟩ b q∧e=.returned (kD c' jt' jf' k')∧KB w1.heap.size w1 w'):=fun w1 c jt jf k b q=>(AR c jt jf k b q w1).mono (by
  rintro e w'⟨h1,h2⟩
  exact⟨_,_,_,_,rfl,h1,h2⟩)
 have HPo:Hid (∀w' v' q,p++brI x d=q->jI w' L Bm n v' q m->KB L w w'->Bj L Bm n (p++brI x d) m w (.returned (.tuple #[])) w'):=fun w' v' q e h1 h2=>⟨rfl,⟨v',e▸h1⟩,h2⟩
 have HB3:Hid (x.kind=3->p++brI x d=p++[⟨5,0,0,d⟩]):=fun h=>by rw[brI3 h]
 have HBn:Hid (x.kind≠3->d<=255->∀y,y=kG x.ins (x.kind==1) d->p++brI x d=p++[y]):=fun h h1 y hy=>by rw[brIn h h1,hy]
 have HBf:Hid (x.kind≠3->¬d<=255->∀y,y=kG x.ins (!(x.kind==1)) 1->p++brI x d=p++[⟨5,0,0,d⟩]++[y]):=fun h h1 y hy=>by rw[brIf h h1,hy,aF]
 generalize brI x d=bl at*;obtain⟨kd,⟨c,jt,jf,k⟩,tg⟩:=x;simp only[itV]at HB3 HBn HBf⊢;have O:=(wB.new w 91 (.int .i64 kd) (.int .u16 c) (.int .u8 jt) (.int .u8 jf) (.int .u32 k) (.int .i64 tg)).ey ((af _ _).alloc (ae _) (.cells #[.int .u16 5,.int .u8 0,.int .u8 0,.int .u32 d] 68));have hB2:Below w.heap.size w ((w.alloc (.cells #[.int .i64 kd,.int .u16 c,.int .u8 jt,.int .u8 jf,.int .u32 k,.int .i64 tg] 91)).alloc (.cells #[.int .u16 5,.int .u8 0,.int .u8 0,.int .u32 d] 68)):=((af _ _).alloc (ae _) _).alloc (by simp) _;have K2:KB L w ((w.alloc (.cells #[.int .i64 kd,.int .u16 c,.int .u8 jt,.int .u8 jf,.int .u32 k,.int .i64 tg] 91)).alloc (.cells #[.int .u16 5,.int .u8 0,.int .u8 0,.int .u32 d] 68)):=((KB.refl L w).alloc (bJ hS.lt) _).alloc (by simp;have:=hS.lt;omega) _;have S2:=hS.ey hB2;have hvo:some w.heap.size≠v.ownBlock:=fun e=>by have:=(hS.own.lt _ e.symm).2;omega
 have hLs:=hS.lt;have hw:IntKind.u32.wrap d=d:=by rw[IntKind.wrap_u32'];omega
 go_enter Tryz.func100,Tryz.ntmps100;by_cases h3:kd=3
 ·subst h3;go_wp2_with fail;refine(HA.out _ v p 5 0 0 d S2 (by omega)).mono ?_;rintro _ w1⟨rfl,⟨v1,hS1⟩,hK1,_⟩;have HF:Hid _:=HPo.out w1 v1 _ (HB3.out trivial) hS1 (K2.trans hK1);clear HA HT HPo HB3 HBn HBf O hB2 K2 S2 hS1 hK1;go_wp2;go_end0;first|exact HF.out|exact⟨rfl,HF.out.2⟩
 by_cases h1:kd=1
 ·subst h1;by_cases hd:d<=255
  ·have HY:Hid (∀y,y=kG ⟨c,jt,jf,k⟩ true d->p++bl=p++[y]):=fun y hy=>HBn.out h3 hd y (by rw[hy];rfl)
   have hd8:IntKind.u8.wrap d=d:=by rw[IntKind.wrap_u8];omega
   clear HB3 HBn HBf;go_wp2_with fail;generalize((w.alloc (.cells #[.int .i64 1,.int .u16 c,.int .u8 jt,.int .u8 jf,.int .u32 k,.int .i64 tg] 91)).alloc (.cells #[.int .u16 5,.int .u8 0,.int .u8 0,.int .u32 d] 68))=W at*;refine(HT.out _ c jt jf k true d).mono ?_;rintro _ w1⟨c',jt',jf',k',hy,rfl,hK1⟩;have S3:=S2.ey hK1.b;have K3:=K2.trans (hK1.mono (show L<=W.heap.size by have:=S2.lt;omega));clear S2 K2 hK1 HT hB2 O;go_wp2_with fail;refine(HA.out _ v p c' jt' jf' k' S3 (by omega)).mono ?_;rintro _ w2⟨rfl,⟨v1,hS1⟩,hK1,_⟩;have HF:Hid _:=HPo.out w2 v1 _ (HY.out _ hy) hS1 (K3.trans hK1);clear HA HPo HY K3 S3 hS1 hK1;go_wp2;go_end0;first|exact HF.out|exact⟨rfl,HF.out.2⟩
  have HY:Hid (∀y,y=kG ⟨c,jt,jf,k⟩ false 1->p++bl=p++[⟨5,0,0,d⟩]++[y]):=fun y hy=>HBf.out h3 hd y (by rw[hy];rfl)
  clear HB3 HBn HBf;go_wp2_with fail;generalize((w.alloc (.cells #[.int .i64 1,.int .u16 c,.int .u8 jt,.int .u8 jf,.int .u32 k,.int .i64 tg] 91)).alloc (.cells #[.int .u16 5,.int .u8 0,.int .u8 0,.int .u32 d] 68))=W at*;refine(HA.out _ v p 5 0 0 d S2 (by omega)).mono ?_;rintro _ w1⟨rfl,⟨v1,hS1⟩,hK1,hF1⟩;have hwb:w1.heap[w.heap.size]? =W.heap[w.heap.size]? :=hF1 _ O.lt (by omega) hvo;have o1:=(aN (a:=⟨w.heap.size,1,none⟩) hwb).trans O.c1;have o2:=(aN (a:=⟨w.heap.size,2,none⟩) hwb).trans O.c2;have o3:=(aN (a:=⟨w.heap.size,3,none⟩) hwb).trans O.c3;have o4:=(aN (a:=⟨w.heap.size,4,none⟩) hwb).trans O.c4;have K3:=K2.trans hK1;clear S2 K2 hK1 hB2 O hwb hF1;go_wp2_with fail;refine(HT.out _ c jt jf k false 1).mono ?_;rintro _ w2⟨c',jt',jf',k',hy,rfl,hK2⟩;have S3:=hS1.ey hK2.b;have K4:=K3.trans (hK2.mono (show L<=w1.heap.size by have:=hS1.lt;omega));clear hS1 K3 hK2 HT o1 o2 o3 o4;have hpl:(p++[(⟨5,0,0,d⟩:I)]).length<=1000000:=by simp;omega
  go_wp2_with fail;refine(HA.out _ v1 _ c' jt' jf' k' S3 hpl).mono ?_;rintro _ w3⟨rfl,⟨v2,hS2⟩,hK2,_⟩;have HF:Hid _:=HPo.out w3 v2 _ (HY.out _ hy) hS2 (K4.trans hK2);clear HA HPo HY K4 S3 hS2 hK2;go_wp2;go_end0;first|exact HF.out|exact⟨rfl,HF.out.2⟩
 have hk1:(kd==1)=false:=by simpa using h1
 by_cases hd:d<=255
 ·have HY:Hid (∀y,y=kG ⟨c,jt,jf,k⟩ false d->p++bl=p++[y]):=fun y hy=>HBn.out h3 hd y (by simp[hy,hk1])
  have hd8:IntKind.u8.wrap d=d:=by rw[IntKind.wrap_u8];omega
  clear HB3 HBn HBf;go_wp2_with fail;generalize((w.alloc (.cells #[.int .i64 kd,.int .u16 c,.int .u8 jt,.int .u8 jf,.int .u32 k,.int .i64 tg] 91)).alloc (.cells #[.int .u16 5,.int .u8 0,.int .u8 0,.int .u32 d] 68))=W at*;refine(HT.out _ c jt jf k false d).mono ?_;rintro _ w1⟨c',jt',jf',k',hy,rfl,hK1⟩;have S3:=S2.ey hK1.b;have K3:=K2.trans (hK1.mono (show L<=W.heap.size by have:=S2.lt;omega));clear S2 K2 hK1 HT hB2 O;go_wp2_with fail;refine(HA.out _ v p c' jt' jf' k' S3 (by omega)).mono ?_;rintro _ w2⟨rfl,⟨v1,hS1⟩,hK1,_⟩;have HF:Hid _:=HPo.out w2 v1 _ (HY.out _ hy) hS1 (K3.trans hK1);clear HA HPo HY K3 S3 hS1 hK1;go_wp2;go_end0;first|exact HF.out|exact⟨rfl,HF.out.2⟩
 have HY:Hid (∀y,y=kG ⟨c,jt,jf,k⟩ true 1->p++bl=p++[⟨5,0,0,d⟩]++[y]):=fun y hy=>HBf.out h3 hd y (by simp[hy,hk1])
 clear HB3 HBn HBf;go_wp2_with fail;generalize((w.alloc (.cells #[.int .i64 kd,.int .u16 c,.int .u8 jt,.int .u8 jf,.int .u32 k,.int .i64 tg] 91)).alloc (.cells #[.int .u16 5,.int .u8 0,.int .u8 0,.int .u32 d] 68))=W at*;refine(HA.out _ v p 5 0 0 d S2 (by omega)).mono ?_;rintro _ w1⟨rfl,⟨v1,hS1⟩,hK1,hF1⟩;have hwb:w1.heap[w.heap.size]? =W.heap[w.heap.size]? :=hF1 _ O.lt (by omega) hvo;have o1:=(aN (a:=⟨w.heap.size,1,none⟩) hwb).trans O.c1;have o2:=(aN (a:=⟨w.heap.size,2,none⟩) hwb).trans O.c2;have o3:=(aN (a:=⟨w.heap.size,3,none⟩) hwb).trans O.c3;have o4:=(aN (a:=⟨w.heap.size,4,none⟩) hwb).trans O.c4;have K3:=K2.trans hK1;clear S2 K2 hK1 hB2 O hwb hF1;go_wp2_with fail;refine(HT.out _ c jt jf k true 1).mono ?_;rintro _ w2⟨c',jt',jf',k',hy,rfl,hK2⟩;have S3:=hS1.ey hK2.b;have K4:=K3.trans (hK2.mono (show L<=w1.heap.size by have:=hS1.lt;omega));clear hS1 K3 hK2 HT o1 o2 o3 o4;have hpl:(p++[(⟨5,0,0,d⟩:I)]).length<=1000000:=by simp;omega
 go_wp2_with fail;refine(HA.out _ v1 _ c' jt' jf' k' S3 hpl).mono ?_;rintro _ w3⟨rfl,⟨v2,hS2⟩,hK2,_⟩;have HF:Hid _:=HPo.out w3 v2 _ (HY.out _ hy) hS2 (K4.trans hK2);clear HA HPo HY K4 S3 hS2 hK2;go_wp2;go_end0;first|exact HF.out|exact⟨rfl,HF.out.2⟩
end Go.Proofs.YtdihdapmphkhpaaGreat
