import Derived.Test.YtdihdapmphkhpaaGreatQ09
set_option linter.all false
set_option maxRecDepth 200000
set_option maxHeartbeats 16000000
namespace Go.Proofs.YtdihdapmphkhpaaGreat
open Go.RowKit
variable{B:Nat}{w:World}
def qI(k:Int)(m:Nat):Value:=
 if m%4=0 then .int .u16 (IntKind.u16.wrap (k+m))else if m%4=3 then .int .u32 (k+m)else .int .u8 ((k+m)%256)
def pJ(w:World)(D N:Nat)(k:Int)(j:Nat):Prop:=∃f,w.rowIs D 68 N f∧∀i,i<j->f i=qI k i
theorem pJ.set{w:World}{D N j:Nat}{k:Int}(h:pJ w D N k j)(v:Value)(hv:v=qI k j):pJ (w.setCell ⟨D,j,none⟩ v) D N k (j+1):=by
 obtain⟨f,hr,hf⟩:=h;refine⟨_,hr.set _ _,fun i hi=> ?_⟩;by_cases e:i=j
 ·rw[if_pos e,e,hv]
 rw[if_neg e];exact hf i (by omega)
theorem pJ.own{D N j:Nat}{k:Int}(h:pJ w D N k j)(i:Nat)(hi:i<N):∃v,w.cell? ⟨D,i,none⟩=some v∧w.frozen? ⟨D,i,none⟩=false:=by
 obtain⟨f,hr,_⟩:=h;exact⟨_,hr.cell hi,hr.frozen i⟩
structure It where
 kind:Int
 ins:I
 target:Int
def It.zero:It:=⟨0,I.zero,0⟩
def It.ok(x:It):Prop:=x.ins.ok∧(-9223372036854775808<=x.kind∧x.kind<=9223372036854775807)∧(-9223372036854775808<=x.target∧x.target<=9223372036854775807)
abbrev itV(x:It):Value:=.agg #[.int .i64 x.kind,.int .u16 x.ins.c,.int .u8 x.ins.jt,.int .u8 x.ins.jf,.int .u32 x.ins.k,.int .i64 x.target]
def itC(x:It):List Value:=[.int .i64 x.kind,.int .u16 x.ins.c,.int .u8 x.ins.jt,.int .u8 x.ins.jf,.int .u32 x.ins.k,.int .i64 x.target]
def jA(l:List It):List Value:=l.flatMap itC
def PI(w:World)(b o:Nat)(x:It):Prop:=w.cell? ⟨b,o,none⟩=some (.int .i64 x.kind)∧w.cell? ⟨b,o+1,none⟩=some (.int .u16 x.ins.c)∧w.cell? ⟨b,o+2,none⟩=some (.int .u8 x.ins.jt)∧w.cell? ⟨b,o+3,none⟩=some (.int .u8 x.ins.jf)∧w.cell? ⟨b,o+4,none⟩=some (.int .u32 x.ins.k)∧w.cell? ⟨b,o+5,none⟩=some (.int .i64 x.target)
theorem PI.stays:mK PI:=fun w w' b o x hlt hb⟨h0,h1,h2,h3,h4,h5⟩=>⟨(hb.cell (p:=⟨b,_,none⟩) hlt).trans h0,(hb.cell (p:=⟨b,_,none⟩) hlt).trans h1,(hb.cell (p:=⟨b,_,none⟩) hlt).trans h2,(hb.cell (p:=⟨b,_,none⟩) hlt).trans h3,(hb.cell (p:=⟨b,_,none⟩) hlt).trans h4,(hb.cell (p:=⟨b,_,none⟩) hlt).trans h5⟩
theorem nw(l:List It):(jA l).length=l.length*6:=by
 induction l with
 |nil=>rfl
 |cons x l ih=>simp only[jA,List.flatMap_cons,aj,aq]at*;simp only[itC,aq,aU];omega
theorem yS(l:List It)(i:Nat)(h:i<l.length)(f:Nat)(hf:f<6):(jA l)[i*6+f]? =(itC l[i])[f]? :=by
 induction l generalizing i with
 |nil=>simp at h
 |cons x p ih=>
  have e:jA (x::p)=itC x++jA p:=by simp[jA]
  have hl:(itC x).length=6:=rfl;rw[e];match i with
  |0=>
   rw[dQ,aC,aD (by rw[hl];exact hf)];rfl
  |i+1=>
   have hi:i<p.length:=by simpa using h
   rw[aw (by rw[hl];omega),hl,show(i+1)*6+f-6=i*6+f by omega,ih i hi];rfl
abbrev gT(w:World)(B:Nat)(v:Value)(l:List It):Prop:=w.ownsRow B 91 6 v l.length (jA l)
abbrev TSrc(w:World)(a:Option Addr)(l:List It):Prop:=eS 6 PI w a l
theorem tm{w1:World}{v:Value}{l:List It}(h:gT w B v l)(hb:Below w.heap.size w w1):gT w1 B v l:=
 aA (row:=none) h ⟨hb.os,hb.tape,hb.output,hb.size,fun k hk _=>hb.block k hk⟩ (by cases v.ownBlock<;>simp)
theorem wZ{v:Value}{l:List It}(h:gT w B v l):∃a cap,v=.slice a l.length cap∧l.length<=cap∧TSrc w a l:=by
 have h0:=h;obtain⟨_,⟨rfl,hl⟩|⟨g,cap,cur,rfl,hb,hgc,hn,hm,hs,hx⟩⟩:=h
 ·have:l=[]:=aM hl;subst this;exact⟨none,0,rfl,ae _,.inl rfl⟩
 refine⟨_,_,rfl,hn,.inr ⟨g,0,rfl,(bf.1 hgc).1,fun i hi=> ?_⟩⟩;have key:∀f,f<6->w.cell? ⟨g,0+i*6+f,none⟩=(itC l[i])[f]? :=fun f hf=>by
  rw[aC,bE h0 (i*6+f) (by omega),yS l i hi f hf]
 exact⟨key 0 (by omega),key 1 (by omega),key 2 (by omega),key 3 (by omega),key 4 (by omega),key 5 (by omega)⟩
theorem mr:(Tryz.prog.info? 91).map (fun i=>(i.zero,i.size,i.bytes))=some (some (.agg #[.int .i64 0,.int .u16 0,.int .u8 0,.int .u8 0,.int .u32 0,.int .i64 0]),6,24):=by kernel_rfl
theorem Av{W:World}(h:Below B W w){D:Nat}(hD:B<=D)(o:Nat)(a b c d e f:Value):Below B W ((((((w.setCell ⟨D,o,none⟩ a).setCell ⟨D,o+1,none⟩ b).setCell ⟨D,o+2,none⟩ c).setCell ⟨D,o+3,none⟩ d).setCell ⟨D,o+4,none⟩ e).setCell ⟨D,o+5,none⟩ f):=(((((h.setCell (p:=⟨D,_,none⟩) hD _).setCell (p:=⟨D,_,none⟩) hD _).setCell (p:=⟨D,_,none⟩) hD _).setCell (p:=⟨D,_,none⟩) hD _).setCell (p:=⟨D,_,none⟩) hD _).setCell (p:=⟨D,_,none⟩) hD _
structure wB(w:World)(g:Nat)(x0 x1 x2 x3 x4 x5:Value):Prop where
 lt:g<w.heap.size
 c0:w.cell? ⟨g,0,none⟩=some x0
 c1:w.cell? ⟨g,1,none⟩=some x1
 c2:w.cell? ⟨g,2,none⟩=some x2
 c3:w.cell? ⟨g,3,none⟩=some x3
 c4:w.cell? ⟨g,4,none⟩=some x4
 c5:w.cell? ⟨g,5,none⟩=some x5
 f:∀i,w.frozen? ⟨g,i,none⟩=false
theorem wB.new(w:World)(t:TypeId)(x0 x1 x2 x3 x4 x5:Value):wB (w.alloc (.cells #[x0,x1,x2,x3,x4,x5] t)) w.heap.size x0 x1 x2 x3 x4 x5:=⟨by simp,by simp,by simp,by simp,by simp,by simp,by simp,by simp⟩
theorem wB.ey{w1:World}{g:Nat}{x0 x1 x2 x3 x4 x5:Value}(h:wB w g x0 x1 x2 x3 x4 x5)(hb:Below w.heap.size w w1):wB w1 g x0 x1 x2 x3 x4 x5:=
 ⟨an h.lt hb.size,(hb.cell (p:=⟨g,_,none⟩) h.lt).trans h.c0,(hb.cell (p:=⟨g,_,none⟩) h.lt).trans h.c1,(hb.cell (p:=⟨g,_,none⟩) h.lt).trans h.c2,(hb.cell (p:=⟨g,_,none⟩) h.lt).trans h.c3,(hb.cell (p:=⟨g,_,none⟩) h.lt).trans h.c4,(hb.cell (p:=⟨g,_,none⟩) h.lt).trans h.c5,fun i=>(hb.frozen (p:=⟨g,i,none⟩) h.lt).trans (h.f i)⟩
end Go.Proofs.YtdihdapmphkhpaaGreat
namespace Go.Proofs.YtdihdapmphkhpaaGreat
variable{O:Int->Int->Prop}{Q:S->Prop}{V a b c f fail fail' k n t:Int}{l l':List It}{r:List Int}{s:S}{x x':It}
def isTst(c:Int):Bool:=c==21||c==37||c==53||c==69
def okIt(x:It):Bool:=
 if x.kind=0 then qW x.ins.c&&(x.ins.c !=5)&& !ke x.ins.c
 else if x.kind=1∨x.kind=2 then isTst x.ins.c
 else x.kind==3||x.kind==4
def kG(x:I)(b:Bool)(n:Int):I:=if b then⟨x.c,n,0,x.k⟩else⟨x.c,0,n,x.k⟩
def brI(x:It)(d:Int):List I:=
 if x.kind=3 then [⟨5,0,0,d⟩]
 else if d<=255 then [kG x.ins (x.kind==1) d]
 else [⟨5,0,0,d⟩,kG x.ins (!(x.kind==1)) 1]
abbrev Mk:=Int->Option Nat
def stI(x:It)(s:List I×Mk):Option (List I×Mk):=
 if x.kind=0 then some (s.1++[x.ins],s.2)
 else match s.2 x.target with
  |none=>if x.kind=4 then some (s.1,fun t=>if t=x.target then some s.1.length else s.2 t)else none
  |some a=>if x.kind=4 then none else some (s.1++brI x ((s.1.length:Int)-a),s.2)
def jc:List It->Option (List I×Mk)
 |[]=>some ([],fun _=>none)
 |x::l=>match jc l with
  |none=>none
  |some s=>stI x s
theorem j7{i:Nat}(h:i<l.length):jc (l.drop i)=match jc (l.drop (i+1))with|none=>none|some s=>stI (l.getD i It.zero) s:=by
 have e:l.drop i=l.getD i It.zero::l.drop (i+1):=by
  rw[cw h,aa,ag h];rfl
 rw[e];rfl
theorem CP(x:It)(d:Int):1<=(brI x d).length∧(brI x d).length<=2:=by
 unfold brI;split
 ·simp
 split<;>simp
theorem qc{s t:List I×Mk}(h:stI x s=some t)(hm:∀k a,s.2 k=some a->a<=s.1.length):(∃e,t.1=s.1++e∧e.length<=2)∧∀k a,t.2 k=some a->a<=t.1.length:=by
 unfold stI at h;split at h
 ·cases h;exact⟨⟨[x.ins],rfl,by simp⟩,fun k a hk=>by have:=hm k a hk;simp;omega⟩
 split at h
 ·split at h
  ·cases h;refine⟨⟨[],by simp,by simp⟩,fun k a hk=> ?_⟩;simp only at hk;split at hk
   ·cases hk;exact ae _
   exact hm k a hk
  cases h
 split at h
 ·cases h
 cases h;exact⟨⟨_,rfl,(CP _ _).2⟩,fun k a hk=>by have:=hm k a hk;simp;omega⟩
theorem mu{s:List I×Mk}(h:jc l=some s):(∀k a,s.2 k=some a->a<=s.1.length)∧s.1.length<=l.length*2:=by
 induction l generalizing s with
 |nil=>cases h;exact⟨(fun k a hk=>by cases hk),by simp⟩
 |cons x l ih=>
  simp only[jc]at h;split at h
  ·cases h
  rename_i s0 h0;obtain⟨h1,h2⟩:=ih h0;obtain⟨⟨e,h3,h4⟩,h5⟩:=qc h h1;exact⟨h5,by rw[h3];simp;omega⟩
theorem wV{s:List I×Mk}(h:jc l=some s)(i:Nat):∃t,jc (l.drop i)=some t∧t.1.length<=s.1.length:=by
 induction l generalizing s i with
 |nil=>exact⟨s,by simpa using h,ae _⟩
 |cons x l ih=>
  cases i with
  |zero=>exact⟨s,h,ae _⟩
  |succ i=>
   simp only[jc]at h;split at h
   ·cases h
   rename_i s0 h0;obtain⟨t,h1,h2⟩:=ih h0 i;obtain⟨⟨e,h3,_⟩,_⟩:=qc h (mu h0).1;exact⟨t,h1,by rw[h3];simp;omega⟩
theorem oM{i:Nat}(h:jc (l.drop i)=none):jc l=none:=by
 cases e:jc l with
 |none=>rfl
 |some s=>
  obtain⟨t,h1,_⟩:=wV e i;rw[h]at h1;cases h1
def tR(l:List It):Int:=match jc l with|none=>1|some s=>if s.1.length<=4096 then 0 else 10
def sH(l:List It):List I:=match jc l with|none=>[]|some s=>if s.1.length<=4096 then s.1.reverse else []
theorem Gq(h:jc l=none):tR l=1∧sH l=[]:=by unfold tR sH;rw[h];exact⟨rfl,rfl⟩
theorem Ha{s:List I×Mk}(h:jc l=some s)(hn:s.1.length<=4096):tR l=0∧sH l=s.1.reverse:=by unfold tR sH;rw[h];simp only;rw[if_pos hn,if_pos hn];exact⟨rfl,rfl⟩
theorem Hc{s:List I×Mk}(h:jc l=some s)(hn:4096<s.1.length):tR l=10∧sH l=[]:=by unfold tR sH;rw[h];simp only;rw[if_neg (by omega),if_neg (by omega)];exact⟨rfl,rfl⟩
theorem FK(l:List It):(sH l).length<=4096:=by
 unfold sH;split
 ·simp
 split
 ·simp;assumption
 simp
def stJ(x:It)(s:List I×Mk):Option (List I×Mk):=
 if x.kind=0 then some (s.1++[x.ins],s.2)
 else if x.kind=4 then some (s.1,fun t=>if t=x.target then some s.1.length else s.2 t)
 else match s.2 x.target with
  |none=>none
  |some a=>some (s.1++brI x ((s.1.length:Int)-a),s.2)
def foI:List It->List I×Mk->Option (List I×Mk)
 |[],s=>some s
 |x::l,s=>(foI l s).bind (stI x)
def foJ:List It->List I×Mk->Option (List I×Mk)
 |[],s=>some s
 |x::l,s=>(foJ l s).bind (stJ x)
theorem qU(l1 l2:List It)(s:List I×Mk):foI (l1++l2) s=(foI l2 s).bind (foI l1):=by
 induction l1 with
 |nil=>simp only[bp];cases foI l2 s<;>rfl
 |cons x l ih=>
  simp only[aO,foI,ih]
  cases foI l2 s<;>rfl
theorem vn(l1 l2:List It)(s:List I×Mk):foJ (l1++l2) s=(foJ l2 s).bind (foJ l1):=by
 induction l1 with
 |nil=>simp only[bp];cases foJ l2 s<;>rfl
 |cons x l ih=>
  simp only[aO,foJ,ih]
  cases foJ l2 s<;>rfl
theorem xQ(l:List It):foI l ([],fun _=>none)=jc l:=by
 induction l with
 |nil=>rfl
 |cons x l ih=>
  simp only[foI,jc,ih]
  cases jc l<;>rfl
def fD(O:Int->Int->Prop)(a b:Int)(l l':List It):Prop:=
 ∀(out:List I)(m m':Mk),(∀t t',O t t'->m t=m' t'∧m' t'≠none)->(∀t',a<=t'->t'<b->m' t'=none)->
  ∃(out2:List I)(m2 m2':Mk),foJ l (out,m)=some (out2,m2)∧foI l' (out,m')=some (out2,m2')∧(∀t t',O t t'->m2 t=m2' t')∧∀t',¬(a<=t'∧t'<b)->m2' t'=m' t'
theorem fD.nil(O:Int->Int->Prop)(a:Int):fD O a a [] []:=fun out m m' h _=>⟨out,m,m',rfl,rfl,fun t t' ht=>(h t t' ht).1,fun _ _=>rfl⟩
def Off(O:Int->Int->Prop)(a b:Int):Prop:=∀t t',O t t'->¬(a<=t'∧t'<b)
theorem fD.app{l1 l1' l2 l2':List It}(h1:fD O a b l1 l1')(h2:fD O b c l2 l2')(hab:a<=b)(hbc:b<=c)(hO:Off O a c):fD O a c (l1++l2) (l1'++l2'):=by
 intro out m m' hm hn;obtain⟨o2,m2,m2',e1,e2,e3,e4⟩:=h2 out m m' hm (fun t' g1 g2=>hn t' (by omega) g2);obtain⟨o3,m3,m3',f1,f2,f3,f4⟩:=h1 o2 m2 m2' (fun t t' ht=>⟨e3 t t' ht,by rw[e4 t' (by have:=hO t t' ht;omega)];exact(hm t t' ht).2⟩) (fun t' g1 g2=>by rw[e4 t' (by omega)];exact hn t' g1 (by omega));refine⟨o3,m3,m3',?_,?_,f3,fun t' ht=> ?_⟩
 ·rw[vn,e1];exact f1
 ·rw[qU,e2];exact f2
 rw[f4 t' (by omega),e4 t' (by omega)]
theorem fD.one(hk:x.kind=x'.kind)(hi:x.ins=x'.ins)(h4:x.kind≠4)(ht:x.kind≠0->O x.target x'.target):fD O a a [x] [x']:=by
 intro out m m' hm _;have hb:∀d,brI x d=brI x' d:=fun d=>by unfold brI;rw[hk,hi]
 by_cases h0:x.kind=0
 ·refine⟨out++[x.ins],m,m',?_,?_,fun t t' h=>(hm t t' h).1,fun _ _=>rfl⟩
  ·simp only[foJ,dB];unfold stJ;rw[if_pos h0]
  simp only[foI,dB];unfold stI;rw[if_pos (by rw[<-hk];exact h0),hi]
 obtain⟨e1,e2⟩:=hm _ _ (ht h0)
 cases e:m' x'.target with
 |none=>exact absurd e e2
 |some p=>
  rw[e]at e1;refine⟨out++brI x ((out.length:Int)-p),m,m',?_,?_,fun t t' h=>(hm t t' h).1,fun _ _=>rfl⟩
  ·simp only[foJ,dB];unfold stJ;rw[if_neg h0,if_neg h4];simp only;rw[e1]
  simp only[foI,dB];unfold stI;rw[if_neg (by rw[<-hk];exact h0)];simp only;rw[e];simp only;rw[if_neg (by rw[<-hk];exact h4),hb]
theorem fD.lab(hx:x.kind=4)(hx':x'.kind=4)(h:fD (fun t t'=>O t t'∨(t=x.target∧t'=x'.target)) (x'.target+1) c l l')(hO:∀t t',O t t'->t≠x.target∧t'≠x'.target)(hc:x'.target<c):
 fD O x'.target c (l++[x]) (l'++[x']):=by
 intro out m m' hm hn;have g1:foJ [x] (out,m)=some (out,fun t=>if t=x.target then some out.length else m t):=by
  simp only[foJ,dB];unfold stJ;rw[if_neg (by omega),if_pos hx]
 have g2:foI [x'] (out,m')=some (out,fun t=>if t=x'.target then some out.length else m' t):=by
  simp only[foI,dB];unfold stI;rw[if_neg (by omega)];simp only;rw[hn x'.target (ba _) hc];simp only;rw[if_pos hx']
 obtain⟨o3,m3,m3',f1,f2,f3,f4⟩:=h out (fun t=>if t=x.target then some out.length else m t) (fun t=>if t=x'.target then some out.length else m' t) (fun t t' ht=>by
  rcases ht with ht|⟨rfl,rfl⟩
  ·obtain⟨n1,n2⟩:=hO t t' ht
   rw[if_neg n1,if_neg n2]
   exact hm t t' ht
  simp) (fun t' e1 e2=>by
  rw[if_neg (by omega)]
  exact hn t' (by omega) e2)
 refine⟨o3,m3,m3',?_,?_,fun t t' ht=>f3 t t' (.inl ht),fun t' ht=> ?_⟩
 ·rw[vn,g1];exact f1
 ·rw[qU,g2];exact f2
 rw[f4 t' (by omega)];rw[if_neg (by omega)]
theorem fD.whole(h:fD (fun _ _=>False) a b l l'):∃out m m',foJ l ([],fun _=>none)=some (out,m)∧jc l'=some (out,m'):=by
 obtain⟨o,m,m',h1,h2,_⟩:=h [] (fun _=>none) (fun _=>none) (fun _ _ h=>h.elim) (fun _ _ _=>rfl);exact⟨o,m,m',h1,by rw[<-xQ];exact h2⟩
def jr(c k:Int):It:=⟨0,⟨c,0,0,k⟩,0⟩
def fi(a:Int):It:=jr 32 a
def fW(c k t:Int):It:=⟨1,⟨c,0,0,k⟩,t⟩
def fq(c k t:Int):It:=⟨2,⟨c,0,0,k⟩,t⟩
def fe(t:Int):It:=⟨4,⟨0,0,0,0⟩,t⟩
def ig(a m b fail:Int):List It:=if m=0 then []else fi a::((if m=4294967295 then []else [jr 84 m])++[fq 21 b fail])
def upH(v:Nat):Int:=((v/4294967296:Nat):Int)
def loH(v:Nat):Int:=((v%4294967296:Nat):Int)
def td(v:Nat)(a fail t:Int):List It:=[fi (a+4),fW 37 (upH v) t,fq 21 (upH v) fail,fi a,fq 53 (loH v) fail]++[fe t]
def nf(v:Nat)(a fail t:Int):List It:=[fi (a+4),fW 37 (upH v) fail,fq 21 (upH v) t,fi a,fW 37 (loH v) fail]++[fe t]
def ly(v:Nat)(a fail t:Int):List It:=if v=0 then []else td v a fail t
def jy(v:Nat)(a fail t:Int):List It:=if v=18446744073709551615 then []else nf v a fail t
def gO(c:K)(a fail p1 p2:Int):List It:=
 if c.kind=1 then ig (a+4) (upH c.a) (upH c.b) fail++ig a (loH c.a) (loH c.b) fail
 else if c.kind=2 then ly c.a a fail p1++jy c.b a fail p2
 else []
def iS(c:K)(n:Int):Int:=if c.a=0 then n else n+1
def jZ(c:K)(n:Int):Int:=if c.kind=2 then(if c.b=18446744073709551615 then iS c n else iS c n+1)else n
def Und(O:Int->Int->Prop)(f n:Int):Prop:=∀t t',O t t'->t<f∧t'<=n
theorem Und.up{f' n':Int}(h:Und O f n)(h1:f<=f')(h2:n<=n'):Und O f' n':=fun t t' ht=>by have:=h t t' ht;omega
theorem Und.off(h:Und O f n):Off O (n+1) b:=fun t t' ht=>by have:=(h t t' ht).2;omega
theorem Und.more(h:Und O f n):Und (fun t t'=>O t t'∨(t=f∧t'=n+1)) (f+1) (n+1):=fun t t' ht=>by
 rcases ht with ht|⟨rfl,rfl⟩
 ·have:=h t t' ht;omega
 omega
theorem fD.cons(h:fD O a b l l')(hk:x.kind=x'.kind)(hi:x.ins=x'.ins)(h4:x.kind≠4)(ht:x.kind≠0->O x.target x'.target)(hab:a<=b)(hO:Off O a b):fD O a b (x::l) (x'::l'):=
 fD.app (l1:=[x]) (l1':=[x']) (fD.one hk hi h4 ht) h (ba _) hab hO
theorem fD.ld(h:fD O a b l l')(hab:a<=b)(hO:Off O a b):fD O a b (jr c k::l) (jr c k::l'):=h.cons rfl rfl (by simp[jr]) (by simp[jr]) hab hO
theorem fD.iff{t':Int}(h:fD O a b l l')(ht:O t t')(hab:a<=b)(hO:Off O a b):fD O a b (fW c k t::l) (fW c k t'::l'):=h.cons rfl rfl (by simp[fW]) (fun _=>ht) hab hO
theorem fD.unl{t':Int}(h:fD O a b l l')(ht:O t t')(hab:a<=b)(hO:Off O a b):fD O a b (fq c k t::l) (fq c k t'::l'):=h.cons rfl rfl (by simp[fq]) (fun _=>ht) hab hO
theorem Ah{m:Int}(hu:Und O f n)(hf:O fail fail'):fD O (n+1) (n+1) (ig a m b fail) (ig a m b fail'):=by
 unfold ig;by_cases h0:m=0
 ·rw[if_pos h0,if_pos h0];exact fD.nil _ _
 rw[if_neg h0,if_neg h0];refine fD.ld ?_ (ba _) hu.off;by_cases h1:m=4294967295
 ·rw[if_pos h1];exact fD.unl (fD.nil _ _) hf (ba _) hu.off
 rw[if_neg h1];exact fD.ld (fD.unl (fD.nil _ _) hf (ba _) hu.off) (ba _) hu.off
theorem rN(hu:Und O f n)(h:fD (fun t t'=>O t t'∨(t=f∧t'=n+1)) (n+1+1) c l l')(hc:n+1<c):fD O (n+1) c (l++[fe f]) (l'++[fe (n+1)]):=
 fD.lab (x:=fe f) (x':=fe (n+1)) rfl rfl h (fun t t' ht=>by have:=hu t t' ht;simp only[fe];omega) hc
theorem IV{v:Nat}(hu:Und O f n)(hf:O fail fail'):fD O (n+1) (n+1+1) (td v a fail f) (td v a fail' (n+1)):=by
 refine rN hu ?_ (by omega);have hm:Off (fun t t'=>O t t'∨(t=f∧t'=n+1)) (n+1+1) (n+1+1):=hu.more.off;exact fD.ld (fD.iff (fD.unl (fD.ld (fD.unl (fD.nil _ _) (.inl hf) (ba _) hm) (ba _) hm) (.inl hf) (ba _) hm) (.inr ⟨rfl,rfl⟩) (ba _) hm) (ba _) hm
theorem Gu{v:Nat}(hu:Und O f n)(hf:O fail fail'):fD O (n+1) (n+1+1) (nf v a fail f) (nf v a fail' (n+1)):=by
 refine rN hu ?_ (by omega);have hm:Off (fun t t'=>O t t'∨(t=f∧t'=n+1)) (n+1+1) (n+1+1):=hu.more.off;exact fD.ld (fD.iff (fD.unl (fD.ld (fD.iff (fD.nil _ _) (.inl hf) (ba _) hm) (ba _) hm) (.inr ⟨rfl,rfl⟩) (ba _) hm) (.inl hf) (ba _) hm) (ba _) hm
theorem C3(c:K)(n:Int):n<=iS c n:=by unfold iS;split<;>omega
theorem yv(c:K)(n:Int):n<=jZ c n:=by
 have:=C3 c n;unfold jZ;split
 ·split<;>omega
 omega
theorem Ik(c:K)(hu:Und O f n)(hf:O fail fail'):fD O (n+1) (jZ c n+1) (gO c a fail f (f+1)) (gO c a fail' (n+1) (iS c n+1)):=by
 unfold gO;by_cases h1:c.kind=1
 ·have e:jZ c n=n:=by unfold jZ;rw[if_neg (by omega)]
  rw[if_pos h1,if_pos h1,e];exact fD.app (Ah hu hf) (Ah hu hf) (ba _) (ba _) hu.off
 rw[if_neg h1,if_neg h1];by_cases h2:c.kind=2
 ·rw[if_pos h2,if_pos h2];have hl:=C3 c n;have s1:fD O (n+1) (iS c n+1) (ly c.a a fail f) (ly c.a a fail' (n+1)):=by
   unfold ly iS;by_cases h:c.a=0
   ·rw[if_pos h,if_pos h,if_pos h];exact fD.nil _ _
   rw[if_neg h,if_neg h,if_neg h];exact IV hu hf
  have hu2:Und O (f+1) (iS c n):=hu.up (by omega) hl;have s2:fD O (iS c n+1) (jZ c n+1) (jy c.b a fail (f+1)) (jy c.b a fail' (iS c n+1)):=by
   unfold jy jZ;rw[if_pos h2];by_cases h:c.b=18446744073709551615
   ·rw[if_pos h,if_pos h,if_pos h];exact fD.nil _ _
   rw[if_neg h,if_neg h,if_neg h];exact Gu hu2 hf
  have hc:iS c n<=jZ c n:=by unfold jZ;rw[if_pos h2];split<;>omega
  exact fD.app s1 s2 (by omega) (by omega) hu.off
 have e:jZ c n=n:=by unfold jZ;rw[if_neg h2]
 rw[if_neg h2,if_neg h2,e];exact fD.nil _ _
def lz:List K->Int->Int->Int->List It
 |[],_,_,_=>[]
 |c::r,i,fail,base=>gO c (16+8*i) fail (base+1+2*i) (base+1+2*i+1)++lz r (i+1) fail base
def fR:List K->Int->Int
 |[],n=>n
 |c::r,n=>fR r (jZ c n)
def ja:List K->Int->Int->Int->List It
 |[],_,_,_=>[]
 |c::r,i,fail,n=>gO c (16+8*i) fail (n+1) (iS c n+1)++ja r (i+1) fail (jZ c n)
theorem kZ(r:List K):∀n,n<=fR r n:=by
 induction r with
 |nil=>intro n;exact ba _
 |cons c r ih=>intro n;exact Int.le_trans (yv c n) (ih _)
theorem E3{base:Int}(hf:O fail fail')(r:List K):∀{i n:Int},Und O (base+1+2*i) n->fD O (n+1) (fR r n+1) (lz r i fail base) (ja r i fail' n):=by
 induction r with
 |nil=>intro i n hu;exact fD.nil _ _
 |cons c r ih=>
  intro i n hu;have h1:=yv c n;have h2:=kZ r (jZ c n);refine fD.app (Ik c hu hf) (ih (hu.up (by omega) h1)) (by omega) (by simp only[fR];omega) hu.off
def jQ(k:Int):It:=jr 6 k
def uR(r:List K)(fail base:Int):List It:=lz r 0 fail base++[jQ 2147418112]
def jN(r:List K)(fail n:Int):List It:=ja r 0 fail n++[jQ 2147418112]
theorem Ab{base:Int}(hf:O fail fail')(r:List K)(hu:Und O (base+1) n):fD O (n+1) (fR r n+1) (uR r fail base) (jN r fail' n):=by
 have h:=kZ r n;exact fD.app (E3 hf r (i:=0) (hu.up (by omega) (ba _))) (fD.ld (fD.nil _ _) (ba _) (hu.up (ba _) h).off) (by omega) (ba _) hu.off
def iU:List (List K)->Int->List It
 |[],_=>[]
 |[r],f=>uR r 0 f
 |r::q::rs,f=>(uR r f f++[fe f])++iU (q::rs) (f+13)
def jC:List (List K)->Int->Int
 |[],n=>n
 |[r],n=>fR r n
 |r::q::rs,n=>jC (q::rs) (fR r (n+1))
def jw:List (List K)->Int->List It
 |[],_=>[]
 |[r],n=>jN r 0 n
 |r::q::rs,n=>(jN r (n+1) (n+1)++[fe (n+1)])++jw (q::rs) (fR r (n+1))
theorem ui(rs:List (List K)):∀n,n<=jC rs n:=by
 induction rs with
 |nil=>intro n;exact ba _
 |cons r rs ih=>
  intro n
  cases rs with
  |nil=>exact kZ r n
  |cons q rs=>have:=ih (fR r (n+1));have:=kZ r (n+1);simp only[jC];omega
theorem FU(h0:O 0 0)(rs:List (List K)):∀{f n:Int},Und O f n->fD O (n+1) (jC rs n+1) (iU rs f) (jw rs n):=by
 induction rs with
 |nil=>intro f n hu;exact fD.nil _ _
 |cons r rs ih=>
  intro f n hu
  cases rs with
  |nil=>exact Ab h0 r (hu.up (by omega) (ba _))
  |cons q rs=>
   have h1:=kZ r (n+1);have h2:=ui (q::rs) (fR r (n+1));refine fD.app (b:=fR r (n+1)+1) (rN hu (Ab (.inr ⟨rfl,rfl⟩) r hu.more) (by omega)) (ih (hu.up (by omega) (by omega))) (by omega) (by simp only[jC];omega) hu.off
def iO(es:List E):Int:=(es.length:Int)+13*((es.map (fun e=>e.rules.length)).sum:Nat)
def gM:Nat->List E->Int->List It
 |0,_,_=>[]
 |k+1,es,f=>
  if es.length<=1 then fq 21 (es.getD 0 E.zero).nr 0::iU (es.getD 0 E.zero).rules f
  else(fW 53 (es.getD (es.length/2) E.zero).nr f::gM k (es.take (es.length/2)) (f+1)++[fe f])++gM k (es.drop (es.length/2)) (f+1+iO (es.take (es.length/2)))
def fK:Nat->List E->Int->Int
 |0,_,n=>n
 |k+1,es,n=>
  if es.length<=1 then jC (es.getD 0 E.zero).rules n
  else fK k (es.drop (es.length/2)) (fK k (es.take (es.length/2)) (n+1))
def fV:Nat->List E->Int->List It
 |0,_,_=>[]
 |k+1,es,n=>
  if es.length<=1 then fq 21 (es.getD 0 E.zero).nr 0::jw (es.getD 0 E.zero).rules n
  else(fW 53 (es.getD (es.length/2) E.zero).nr (n+1)::fV k (es.take (es.length/2)) (n+1)++[fe (n+1)])++fV k (es.drop (es.length/2)) (fK k (es.take (es.length/2)) (n+1))
theorem kj(k:Nat):∀es n,n<=fK k es n:=by
 induction k with
 |zero=>intro es n;exact ba _
 |succ k ih=>
  intro es n;simp only[fK];split
  ·exact ui _ _
  have:=ih (es.take (es.length/2)) (n+1);have:=ih (es.drop (es.length/2)) (fK k (es.take (es.length/2)) (n+1));omega
theorem sG(es:List E):0<=iO es:=by unfold iO;omega
theorem Fj(k:Nat):∀{O:Int->Int->Prop}(es:List E){f n:Int},O 0 0->Und O f n->fD O (n+1) (fK k es n+1) (gM k es f) (fV k es n):=by
 induction k with
 |zero=>intro O es f n h0 hu;exact fD.nil _ _
 |succ k ih=>
  intro O es f n h0 hu;simp only[fK,gM,fV];by_cases h1:es.length<=1
  ·rw[if_pos h1,if_pos h1,if_pos h1];have:=ui (es.getD 0 E.zero).rules n;exact fD.unl (FU h0 _ hu) h0 (by omega) hu.off
  rw[if_neg h1,if_neg h1,if_neg h1];have g1:=kj k (es.take (es.length/2)) (n+1);have g2:=kj k (es.drop (es.length/2)) (fK k (es.take (es.length/2)) (n+1));have g3:=sG (es.take (es.length/2));refine fD.app (b:=fK k (es.take (es.length/2)) (n+1)+1) (rN hu ?_ (by omega)) (ih _ h0 (hu.up (by omega) (by omega))) (by omega) (by omega) hu.off;exact fD.iff (ih _ (.inl h0) hu.more) (.inr ⟨rfl,rfl⟩) (by omega) hu.more.off
def ew:List E->Nat
 |[]=>0
 |e::es=>1+(es.takeWhile (fun x=>x.et==e.et)).length
theorem kR(es:List E):ew es<=es.length:=by
 cases es with
 |nil=>exact ae _
 |cons e es=>have:=(List.takeWhile_prefix (fun x:E=>x.et==e.et) (l:=es)).length_le;simp only[ew,aq];omega
def mB:Nat->List E->Int->List It
 |0,_,_=>[]
 |k+1,es,f=>
  if es.length=0 then []
  else(fq 21 (es.getD 0 E.zero).et f::fi 0::gM (ew es) (es.take (ew es)) (f+1)++[fe f])++mB k (es.drop (ew es)) (f+(1+iO (es.take (ew es))))
def mg:Nat->List E->Int->Int
 |0,_,n=>n
 |k+1,es,n=>if es.length=0 then n else mg k (es.drop (ew es)) (fK (ew es) (es.take (ew es)) (n+1))
def jO:Nat->List E->Int->List It
 |0,_,_=>[]
 |k+1,es,n=>
  if es.length=0 then []
  else(fq 21 (es.getD 0 E.zero).et (n+1)::fi 0::fV (ew es) (es.take (ew es)) (n+1)++[fe (n+1)])++jO k (es.drop (ew es)) (fK (ew es) (es.take (ew es)) (n+1))
theorem yL(k:Nat):∀es n,n<=mg k es n:=by
 induction k with
 |zero=>intro es n;exact ba _
 |succ k ih=>
  intro es n;simp only[mg];split
  ·exact ba _
  have:=kj (ew es) (es.take (ew es)) (n+1);have:=ih (es.drop (ew es)) (fK (ew es) (es.take (ew es)) (n+1));omega
theorem Ge(k:Nat):∀{O:Int->Int->Prop}(es:List E){f n:Int},O 0 0->Und O f n->fD O (n+1) (mg k es n+1) (mB k es f) (jO k es n):=by
 induction k with
 |zero=>intro O es f n h0 hu;exact fD.nil _ _
 |succ k ih=>
  intro O es f n h0 hu;simp only[mg,mB,jO];by_cases h1:es.length=0
  ·rw[if_pos h1,if_pos h1,if_pos h1];exact fD.nil _ _
  rw[if_neg h1,if_neg h1,if_neg h1];have g1:=kj (ew es) (es.take (ew es)) (n+1);have g2:=yL k (es.drop (ew es)) (fK (ew es) (es.take (ew es)) (n+1));have g3:=sG (es.take (ew es));refine fD.app (b:=fK (ew es) (es.take (ew es)) (n+1)+1) (rN hu ?_ (by omega)) (ih _ h0 (hu.up (by omega) (by omega))) (by omega) (by omega) hu.off;exact fD.unl (fD.ld (Fj (ew es) _ (.inl h0) hu.more) (by omega) hu.more.off) (.inr ⟨rfl,rfl⟩) (by omega) hu.more.off
def js(p:List E):List It:=if p.length=0 then [jQ 2147483648]else(fi 4::mB p.length p 1++[fe 0])++[jQ 2147483648]
def iY(p:List E):List It:=(if p.length=0 then []else [fi 4])++jO p.length p 0++[fe 0]++[jQ 2147483648]
theorem wO(p:List E):∃out m m',foJ (js p) ([],fun _=>none)=some (out,m)∧jc (iY p)=some (out,m'):=by
 by_cases h0:p.length=0
 ·have:p=[]:=aM h0;subst this;exact⟨[⟨6,0,0,2147483648⟩],_,_,rfl,rfl⟩
 refine fD.whole (a:=0) (b:=mg p.length p 0+1) ?_;unfold js iY;rw[if_neg h0,if_neg h0];have g:=yL p.length p 0;refine fD.app (b:=mg p.length p 0+1) ?_ (fD.ld (fD.nil _ _) (ba _) (fun _ _ h=>h.elim)) (by omega) (ba _) (fun _ _ h=>h.elim);have hu:Und (fun t t'=>False∨(t=0∧t'=0)) 1 0:=fun t t' h=>by
  rcases h with h|⟨rfl,rfl⟩
  ·exact h.elim
  omega
 refine fD.lab (x:=fe 0) (x':=fe 0) rfl rfl ?_ (fun _ _ h=>h.elim) (by show(0:Int)<_;omega);exact fD.ld (Ge p.length p (.inr ⟨rfl,rfl⟩) hu) (by show(0:Int)+1<=_;omega) hu.off
def kt(r:List Int)(L:List I)(s:S)(v:Int):Prop:=∃k:Int,1<=k∧k<=L.length∧∀n,L.length<=n->kv r n L s=(v,k)
theorem kt.ends{L:List I}{i:I}{v:Int}(h:gV i s=some v):kt r (i::L) s v:=⟨1,by omega,by simp only[aq];omega,fun n hn=>by
 cases n with
 |zero=>simp at hn
 |succ n=>simp only[kv,h]⟩
theorem kt.step{L:List I}{i:I}{v:Int}(h:gV i s=none)(hr:kt r (L.drop (gB i s)) (iH r i s) v):kt r (i::L) s v:=by
 obtain⟨k,h1,h2,h3⟩:=hr;have hl:(L.drop (gB i s)).length<=L.length:=by simp
 refine⟨k+1,by omega,by simp only[aq];omega,fun n hn=> ?_⟩
 cases n with
 |zero=>simp at hn
 |succ n=>
  have:=h3 n (by simp only[aq]at hn;omega);simp only[kv,h,this]
def Beh(r:List Int)(σ:List I×Mk)(Q:S->Prop)(V:Int):Prop:=∀s,Q s->kt r σ.1.reverse s V
def Lab(r:List Int)(σ:List I×Mk)(t:Int)(Q:S->Prop)(V:Int):Prop:=∃a,σ.2 t=some a∧a<=σ.1.length∧∀s,Q s->kt r (σ.1.take a).reverse s V
def jM(s:S):Prop:=True
theorem Beh.any{σ:List I×Mk}(h:Beh r σ jM V)(Q:S->Prop):Beh r σ Q V:=fun s _=>h s trivial
theorem Lab.any{σ:List I×Mk}(h:Lab r σ t jM V)(Q:S->Prop):Lab r σ t Q V:=by
 obtain⟨a,h1,h2,h3⟩:=h;exact⟨a,h1,h2,fun s _=>h3 s trivial⟩
theorem EW{σ σ':List I×Mk}(h:stI x σ=some σ'):(∃e,σ'.1=σ.1++e)∧∀t a,σ.2 t=some a->σ'.2 t=some a:=by
 unfold stI at h;split at h
 ·cases h;exact⟨⟨_,rfl⟩,fun t a ht=>ht⟩
 split at h
 ·rename_i hn;split at h
  ·cases h;refine⟨⟨[],by simp⟩,fun t a ht=> ?_⟩;show(if t=x.target then some σ.1.length else σ.2 t)=some a;rw[if_neg (fun e=>by rw[e,hn]at ht;cases ht)];exact ht
  cases h
 split at h
 ·cases h
 cases h;exact⟨⟨_,rfl⟩,fun t a ht=>ht⟩
theorem Lab.more{σ σ':List I×Mk}(hl:Lab r σ t Q V)(h:stI x σ=some σ'):Lab r σ' t Q V:=by
 obtain⟨⟨e,h1⟩,h2⟩:=EW h;obtain⟨a,g1,g2,g3⟩:=hl;refine⟨a,h2 t a g1,by rw[h1,aj];omega,?_⟩;rw[h1,List.take_append_of_le_length g2];exact g3
theorem gR{σ σ':List I×Mk}(h:foI (x::l) σ=some σ'):∃τ,foI l σ=some τ∧stI x τ=some σ':=by
 simp only[foI]at h
 cases e:foI l σ with
 |none=>rw[e]at h;cases h
 |some τ=>rw[e]at h;exact⟨τ,rfl,h⟩
theorem iJ{l1 l2:List It}{σ σ':List I×Mk}(h:foI (l1++l2) σ=some σ'):∃τ,foI l2 σ=some τ∧foI l1 τ=some σ':=by
 rw[qU]at h
 cases e:foI l2 σ with
 |none=>rw[e]at h;cases h
 |some τ=>rw[e]at h;exact⟨τ,rfl,h⟩
theorem iX{σ σ':List I×Mk}(h:foI [x] σ=some σ'):stI x σ=some σ':=by
 obtain⟨τ,h1,h2⟩:=gR h
 cases h1;exact h2
theorem ku{σ σ':List I×Mk}(h:foI [] σ=some σ'):σ'=σ:=by cases h;rfl
theorem Lab.rH{σ σ':List I×Mk}(hl:Lab r σ t Q V)(h:foI l σ=some σ'):Lab r σ' t Q V:=by
 induction l generalizing σ' with
 |nil=>rw[ku h];exact hl
 |cons x l ih=>
  obtain⟨τ,h1,h2⟩:=gR h;exact(ih h1).more h2
theorem Dm{σ σ':List I×Mk}(h:stI (jr c k) σ=some σ'):σ'=(σ.1++[⟨c,0,0,k⟩],σ.2):=by
 unfold stI at h;rw[if_pos (by rfl)]at h
 cases h;rfl
theorem rj{σ σ':List I×Mk}(h:stI (fi a) σ=some σ')(Q:S->Prop)(hb:Beh r σ (fun s=>s.a=jJ r a.toNat) V):Beh r σ' Q V:=by
 intro s _;rw[Dm h];show kt r (σ.1++[_]).reverse s V;rw[dE];refine kt.step (i:=⟨32,0,0,a⟩) (by simp[gV,opV]) ?_;have e:gB ⟨32,0,0,a⟩ s=0:=by simp[gB,show ke 32=false by decide]
 rw[e];exact hb _ (by simp[iH,show pf 32=false by decide])
theorem Ih{m w:Int}{σ σ':List I×Mk}(h:stI (jr 84 m) σ=some σ')(hb:Beh r σ (fun s=>s.a=tk false true 32 w m) V):Beh r σ' (fun s=>s.a=w) V:=by
 intro s hs;rw[Dm h];show kt r (σ.1++[_]).reverse s V;rw[dE];refine kt.step (i:=⟨84,0,0,m⟩) (by simp[gV,opV]) ?_;have e:gB ⟨84,0,0,m⟩ s=0:=by simp[gB,show ke 84=false by decide]
 rw[e];refine hb _ ?_;simp[iH,show pf 84=true by decide,aluL,opV,hs]
theorem Dk{σ σ':List I×Mk}(h:stI (jQ V) σ=some σ')(Q:S->Prop):Beh r σ' Q V:=by
 intro s _;rw[Dm h];show kt r (σ.1++[_]).reverse s V;rw[dE];exact kt.ends (i:=⟨6,0,0,V⟩) (by simp[gV])
theorem sk{σ σ':List I×Mk}(h:stI (fe t) σ=some σ')(hb:Beh r σ Q V):Lab r σ' t Q V∧Beh r σ' Q V:=by
 unfold stI at h;rw[if_neg (by simp[fe])]at h
 cases e:σ.2 (fe t).target with
 |some a=>rw[e]at h;simp only at h;rw[if_pos (by rfl)]at h;cases h
 |none=>
  rw[e]at h;simp only at h;rw[if_pos (by rfl)]at h;cases h;refine⟨⟨σ.1.length,by simp[fe],ae _,?_⟩,hb⟩;show∀s,Q s->kt r (σ.1.take σ.1.length).reverse s V;rw[ct];exact hb
def isT(c:Int):Prop:=c=21∨c=37∨c=53
theorem nN(hc:isT c)(jt jf k:Int)(r:List Int)(s:S):gV ⟨c,jt,jf,k⟩ s=none∧iH r ⟨c,jt,jf,k⟩ s=s∧gB ⟨c,jt,jf,k⟩ s=(if ij (c/16) s.a k=true then jt else jf).toNat:=by
 rcases hc with rfl|rfl|rfl
 ·exact⟨by simp[gV],by simp[iH,show pf 21=false by decide],by simp[gB,opV,show ke 21=true by decide]⟩
 ·exact⟨by simp[gV],by simp[iH,show pf 37=false by decide],by simp[gB,opV,show ke 37=true by decide]⟩
 exact⟨by simp[gV],by simp[iH,show pf 53=false by decide],by simp[gB,opV,show ke 53=true by decide]⟩
theorem Bw(d:Int)(r:List Int)(s:S):gV ⟨5,0,0,d⟩ s=none∧iH r ⟨5,0,0,d⟩ s=s∧gB ⟨5,0,0,d⟩ s=d.toNat:=by
 exact⟨by simp[gV],by simp[iH,show pf 5=false by decide],by simp[gB]⟩
theorem drop_take(l:List I){a:Nat}(h:a<=l.length):l.reverse.drop ((l.length:Int)-a).toNat=(l.take a).reverse:=by
 rw[show((l.length:Int)-a).toNat=l.length-a by omega,List.reverse_take]
theorem Dh{σ σ':List I×Mk}(h:stI x σ=some σ')(hk:x.kind=1∨x.kind=2)(hc:isT x.ins.c)
 (h1:ij (x.ins.c/16) s.a x.ins.k=(x.kind==1)->∃a,σ.2 x.target=some a∧a<=σ.1.length∧kt r (σ.1.take a).reverse s V)(h2:ij (x.ins.c/16) s.a x.ins.k≠(x.kind==1)->kt r σ.1.reverse s V):kt r σ'.1.reverse s V:=by
 unfold stI at h;rw[if_neg (by omega)]at h
 cases e:σ.2 x.target with
 |none=>rw[e]at h;simp only at h;rw[if_neg (by omega)]at h;cases h
 |some a=>
  rw[e]at h;simp only at h;rw[if_neg (by omega)]at h;cases h;have h1':ij (x.ins.c/16) s.a x.ins.k=(x.kind==1)->kt r (σ.1.reverse.drop ((σ.1.length:Int)-a).toNat) s V:=fun hh=>by
   obtain⟨a',g1,g2,g3⟩:=h1 hh;rw[e]at g1;cases g1;rw[drop_take _ g2];exact g3
  clear h1;show kt r (σ.1++brI x ((σ.1.length:Int)-a)).reverse s V;unfold brI;rw[if_neg (by omega),dE];generalize(σ.1.length:Int)-a=d at*;generalize σ.1.reverse=L at*;by_cases hd:d<=255
  ·rw[if_pos hd];show kt r (kG x.ins (x.kind==1) d::L) s V
   cases hb:(x.kind==1)with
   |true=>
    rw[hb]at h1' h2;obtain⟨f1,f2,f3⟩:=nN hc d 0 x.ins.k r s;refine kt.step (i:=⟨x.ins.c,d,0,x.ins.k⟩) f1 ?_;rw[f2,f3];by_cases hh:ij (x.ins.c/16) s.a x.ins.k=true
    ·rw[if_pos hh];exact h1' hh
    rw[if_neg hh];exact h2 hh
   |false=>
    rw[hb]at h1' h2;obtain⟨f1,f2,f3⟩:=nN hc 0 d x.ins.k r s;refine kt.step (i:=⟨x.ins.c,0,d,x.ins.k⟩) f1 ?_;rw[f2,f3];by_cases hh:ij (x.ins.c/16) s.a x.ins.k=true
    ·rw[if_pos hh];exact h2 (by rw[hh];decide)
    rw[if_neg hh];exact h1' (by simpa using hh)
  rw[if_neg hd];show kt r (kG x.ins (!(x.kind==1)) 1::⟨5,0,0,d⟩::L) s V;have hskip:kt r (L.drop d.toNat) s V->kt r (⟨5,0,0,d⟩::L) s V:=fun g=>by
   obtain⟨f1,f2,f3⟩:=Bw d r s;refine kt.step f1 ?_;rw[f2,f3];exact g
  cases hb:(x.kind==1)with
  |true=>
   rw[hb]at h1' h2;obtain⟨f1,f2,f3⟩:=nN hc 0 1 x.ins.k r s;refine kt.step (i:=⟨x.ins.c,0,1,x.ins.k⟩) f1 ?_;rw[f2,f3];by_cases hh:ij (x.ins.c/16) s.a x.ins.k=true
   ·rw[if_pos hh];exact hskip (h1' hh)
   rw[if_neg hh];exact h2 hh
  |false=>
   rw[hb]at h1' h2;obtain⟨f1,f2,f3⟩:=nN hc 1 0 x.ins.k r s;refine kt.step (i:=⟨x.ins.c,1,0,x.ins.k⟩) f1 ?_;rw[f2,f3];by_cases hh:ij (x.ins.c/16) s.a x.ins.k=true
   ·rw[if_pos hh];exact h2 (by rw[hh];decide)
   rw[if_neg hh];exact hskip (h1' (by simpa using hh))
theorem yw  {A:Int} {σ σ' : List I × Mk} (h : stI (fW c k t) σ = some σ') (hc : isT c) (h1 : ij (c / 16) A k = true -> Lab r σ t (fun s => s.a = A) V) (h2 : ij (c / 16) A k = false -> Beh r σ (fun s => s.a = A) V) : Beh r σ' (fun s => s.a = A) V := fun s hs => by
  simp only at hs
  refine Dh h (.inl rfl) hc (fun hh => ?_) (fun hh => ?_)
  · have hh' : ij (c / 16) A k = true := by rw [<- hs]; exact hh
    obtain ⟨a, g1, g2, g3⟩ := h1 hh'
    exact ⟨a, g1, g2, g3 s hs⟩
  · have hh' : ij (c / 16) A k = false := by
      cases e : ij (c / 16) A k with
      | false => rfl
      | true => exact absurd (show ij (c / 16) s.a k = true by rw [hs]; exact e) hh
    exact h2 hh' s hs
theorem qX  {A:Int} {σ σ' : List I × Mk} (h : stI (fq c k t) σ = some σ') (hc : isT c) (h1 : ij (c / 16) A k = false -> Lab r σ t (fun s => s.a = A) V) (h2 : ij (c / 16) A k = true -> Beh r σ (fun s => s.a = A) V) : Beh r σ' (fun s => s.a = A) V := fun s hs => by
  simp only at hs
  refine Dh h (.inr rfl) hc (fun hh => ?_) (fun hh => ?_)
  · have hh' : ij (c / 16) A k = false := by rw [<- hs]; exact hh
    obtain ⟨a, g1, g2, g3⟩ := h1 hh'
    exact ⟨a, g1, g2, g3 s hs⟩
  · have hh' : ij (c / 16) A k = true := by
      cases e : ij (c / 16) A k with
      | true => rfl
      | false => exact absurd (show ij (c / 16) s.a k = false by rw [hs]; exact e) hh
    exact h2 hh' s hs
end Go.Proofs.YtdihdapmphkhpaaGreat
