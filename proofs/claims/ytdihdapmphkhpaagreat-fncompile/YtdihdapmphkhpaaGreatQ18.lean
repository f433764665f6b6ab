import Derived.Test.YtdihdapmphkhpaaGreatQ09
set_option linter.all false
set_option maxRecDepth 200000
set_option maxHeartbeats 16000000
namespace Go.Proofs.YtdihdapmphkhpaaGreat
open Go.RowKit
variable{w w':World}
abbrev AdK:=Addr×IntKind
def after:List AdK->Int->(Addr->Option Value)->Addr->Option Value
 |[],_,f=>f
 |x::A,k,f=>after A (k+1) (fun q=>if q=x.1 then some (.int x.2 k)else f q)
theorem xT(A B:List AdK)(k:Int)(f:Addr->Option Value):after (A++B) k f=after B (k+A.length) (after A k f):=by
 induction A generalizing k f with
 |nil=>simp[after]
 |cons x A ih=>
  simp only[aO,after,aq];rw[ih];congr 1;omega
def oY(w:World)(A:List AdK):Prop:=∀x∈A,(∃n,w.cell? x.1=some (.int x.2 n))∧w.frozen? x.1=false
structure Sim(w w':World):Prop where
 ints:∀p t n,w.cell? p=some (.int t n)->∃m,w'.cell? p=some (.int t m)
 rows:∀p a n c,w.cell? p=some (.slice a n c)->w'.cell? p=some (.slice a n c)
 frozen:∀p,w'.frozen? p=w.frozen? p
theorem Sim.refl(w:World):Sim w w:=⟨fun p t n h=>⟨n,h⟩,fun p a n c h=>h,fun p=>rfl⟩
structure oW(w w':World)(A:List AdK)(k:Int):Prop where
 cell:∀p,w'.cell? p=after A k w.cell? p
 sim:Sim w w'
 size:w'.heap.size=w.heap.size
 below:∀L,(∀x∈A,L<=x.1.block)->Below L w w'
 block:∀b,(∀x∈A,x.1.block≠b)->w'.heap[b]? =w.heap[b]?
theorem oW.refl(w:World)(k:Int):oW w w [] k:=⟨fun p=>rfl,Sim.refl w,rfl,fun L _=>af _ _,fun b _=>rfl⟩
theorem oW.drew{w w':World}{A:List AdK}{k:Int}(h:oW w w' A k):oW w w'.drew A k:=⟨h.cell,⟨h.sim.ints,h.sim.rows,h.sim.frozen⟩,h.size,fun L hL=>(h.below L hL).drew,h.block⟩
theorem Sim.set{p:Addr}{t:IntKind}{n m:Int}(h:w.cell? p=some (.int t n)):Sim w (w.setCell p (.int t m)):=by
 refine⟨fun q t' n' h'=> ?_,fun q a n' c h'=> ?_,fun q=>by simp⟩
 ·by_cases e:p=q
  ·subst e;rw[h]at h'
   cases h';exact⟨m,World.cell?_setCell_same' _ _ _ (by rw[h];rfl)⟩
  exact⟨n',(aJ _ _ _ _ e).trans h'⟩
 have e:p≠q:=fun e=>by rw[<-e,h]at h';cases h'
 exact(aJ _ _ _ _ e).trans h'
theorem Sim.trans{a b c:World}(h:Sim a b)(h':Sim b c):Sim a c:=
 ⟨fun p t n e=>by obtain⟨m,e1⟩:=h.ints p t n e;exact h'.ints p t m e1,fun p x n cc e=>h'.rows _ _ _ _ (h.rows _ _ _ _ e),fun p=>(h'.frozen p).trans (h.frozen p)⟩
theorem oW.trans{a b c:World}{A B:List AdK}{k:Int}{k':Int}(h:oW a b A k)(h':oW b c B k')(hk:k'=k+A.length):oW a c (A++B) k:=by
 subst hk;refine⟨fun p=> ?_,h.sim.trans h'.sim,h'.size.trans h.size,fun L hL=> ?_,fun bk hb=> ?_⟩
 ·rw[h'.cell p,xT];congr 1;funext q;exact h.cell q
 ·exact(h.below L fun x hx=>hL x (by simp[hx])).trans (h'.below L fun x hx=>hL x (by simp[hx]))
 exact(h'.block bk fun x hx=>hb x (by simp[hx])).trans (h.block bk fun x hx=>hb x (by simp[hx]))
def GO(w:World)(A:List AdK)(k:Int):Prop:=∀j(h:j<A.length),w.cell? A[j].1=some (.int A[j].2 (k+j))
theorem GO.below{A:List AdK}{k:Int}(h:GO w A k)(hb:Below w.heap.size w w'):GO w' A k:=fun j hj=>by
 have hc:=h j hj;have hl:A[j].1.block<w.heap.size:=by
  simp only[World.cell?]at hc;by_cases e:A[j].1.block<w.heap.size
  ·exact e
  rw[cI (by omega)]at hc;cases hc
 rw[hb.cell hl];exact hc
def a3(b o:Nat):List AdK:=[(⟨b,o,none⟩,.i64),(⟨b,o+1,none⟩,.u64),(⟨b,o+2,none⟩,.u64)]
def wG(b o:Nat)(n:Nat):List AdK:=(List.range n).flatMap fun j=>a3 b (o+j*3)
theorem lL{α:Type}(f:Nat->List α)(n:Nat):(List.range (n+1)).flatMap f=(List.range n).flatMap f++f n:=by
 rw[cC,bY];simp
theorem xu(b o n:Nat):wG b o (n+1)=wG b o n++a3 b (o+n*3):=lL _ n
theorem ze(b o:Nat):∀n,(wG b o n).length=n*3
 |0=>rfl
 |n+1=>by rw[xu,aj,ze];simp[a3];omega
def SK(w:World)(a:Option Addr)(n:Nat)(A:List AdK):Prop:=(n=0∧A=[])∨∃b o,a=some ⟨b,o,none⟩∧A=wG b o n∧oY w A
def SR(w:World)(a:Option Addr)(n:Nat)(A:List AdK):Prop:=n<=1048576∧((n=0∧A=[])∨∃b o,a=some ⟨b,o,none⟩∧∃F:Nat->List AdK,A=(List.range n).flatMap F∧∀i,i<n->∃a' n' c',w.cell? ⟨b,o+i,none⟩=some (.slice a' n' c')∧SK w a' n' (F i))
def a2(b o:Nat):List AdK:=[(⟨b,o,none⟩,.u32),(⟨b,o+1,none⟩,.u32)]
def SE(w:World)(a:Option Addr)(n:Nat)(A:List AdK):Prop:=n<=1048576∧((n=0∧A=[])∨∃b o,a=some ⟨b,o,none⟩∧∃F:Nat->List AdK,A=((List.range n).flatMap fun i=>a2 b (o+i*3)++F i)∧∀i,i<n->oY w (a2 b (o+i*3))∧∃a' n' c',w.cell? ⟨b,o+i*3+2,none⟩=some (.slice a' n' c')∧SR w a' n' (F i))
def entA(b o:Nat)(F:Nat->List AdK)(j:Nat):List AdK:=(List.range j).flatMap fun i=>a2 b (o+i*3)++F i
theorem Ec(b o:Nat)(F:Nat->List AdK)(j:Nat):entA b o F (j+1)=entA b o F j++a2 b (o+j*3)++F j:=by
 rw[entA,lL,<-aF];rfl
def NewP{α:Type}(k:Nat)(P:Nat->World->Nat->Nat->α->Prop)(l:List α)(w:World)(wrap:Value->Value)(e:Ending)(w':World):Prop:=
 ∃a cap,e=.returned (wrap (.slice a l.length cap))∧(ga w.heap.size k (P w.heap.size) w' a l∧l.length<=cap)∧Below w.heap.size w w'
theorem NewP.mk{α:Type}{k:Nat}{P:Nat->World->Nat->Nat->α->Prop}{l:List α}{wrap:Value->Value}{a:Option Addr}{cap:Nat}{e:Ending}(he:e=.returned (wrap (.slice a l.length cap)))(h:ga w.heap.size k (P w.heap.size) w' a l)(hc:l.length<=cap)(hb:Below w.heap.size w w'):NewP k P l w wrap e w':=⟨a,cap,he,⟨h,hc⟩,hb⟩
structure Box1(w:World)(g:Nat)(x:Value):Prop where
 lt:g<w.heap.size
 c0:w.cell? ⟨g,0,none⟩=some x
 f0:w.frozen? ⟨g,0,none⟩=false
theorem Box1.ey{w1:World}{g:Nat}{x:Value}(h:Box1 w g x)(hb:Below w.heap.size w w1):Box1 w1 g x:=
 ⟨an h.lt hb.size,(hb.cell (p:=⟨g,0,none⟩) h.lt).trans h.c0,(hb.frozen (p:=⟨g,0,none⟩) h.lt).trans h.f0⟩
theorem Box1.new(w:World)(t:TypeId)(x:Value):Box1 (w.alloc (.cells #[x] t)) w.heap.size x:=⟨by simp,by simp,by simp⟩
theorem rX{b o n:Nat}{x:AdK}(h:x∈wG b o n):x.1.block=b∧o<=x.1.off∧x.1.off<o+n*3:=by
 obtain⟨j,hj,hx⟩:=cD.1 h;have hj':=bD.1 hj;simp only[a3,bF,cM,or_false]at hx;rcases hx with rfl|rfl|rfl<;>refine⟨rfl,?_,?_⟩<;>simp only<;>omega
theorem oY.below{A:List AdK}(h:oY w A)(hb:Below w.heap.size w w'):oY w' A:=fun x hx=>by
 obtain⟨⟨n,h1⟩,h2⟩:=h x hx;have hl:=fA h1;exact⟨⟨n,(hb.cell hl).trans h1⟩,(hb.frozen hl).trans h2⟩
theorem SK.below{w w':World}{a:Option Addr}{n:Nat}{A:List AdK}(h:SK w a n A)(s:Below w.heap.size w w'):SK w' a n A:=by
 rcases h with h|⟨b,o,h1,h2,h3⟩
 ·exact .inl h
 exact .inr ⟨b,o,h1,h2,h3.below s⟩
theorem SR.below{w w':World}{a:Option Addr}{n:Nat}{A:List AdK}(h:SR w a n A)(s:Below w.heap.size w w'):SR w' a n A:=by
 obtain⟨hm,h⟩:=h;rcases h with h|⟨b,o,h1,F,h2,h3⟩
 ·exact⟨hm,.inl h⟩
 refine⟨hm,.inr ⟨b,o,h1,F,h2,fun i hi=> ?_⟩⟩;obtain⟨a',n',c',h4,h5⟩:=h3 i hi;exact⟨a',n',c',eh s h4,h5.below s⟩
theorem SE.below{w w':World}{a:Option Addr}{n:Nat}{A:List AdK}(h:SE w a n A)(s:Below w.heap.size w w'):SE w' a n A:=by
 obtain⟨hm,h⟩:=h;rcases h with h|⟨b,o,h1,F,h2,h3⟩
 ·exact⟨hm,.inl h⟩
 refine⟨hm,.inr ⟨b,o,h1,F,h2,fun i hi=> ?_⟩⟩;obtain⟨h6,a',n',c',h4,h5⟩:=h3 i hi;exact⟨h6.below s,a',n',c',eh s h4,h5.below s⟩
end Go.Proofs.YtdihdapmphkhpaaGreat
namespace Go.Proofs.YtdihdapmphkhpaaGreat
variable{b y:Nat}
def difN(vs:List Nat):Nat->Nat
 |0=>0
 |n+1=>difN vs n|||(vs.getD n 0^^^vs.getD 0 0)
def All64(vs:List Nat):Prop:=∀i,vs.getD i 0<18446744073709551616
theorem I5{vs:List Nat}(h:All64 vs):∀n,difN vs n<18446744073709551616
 |0=>(by decide:0<18446744073709551616)
 |n+1=>zu (I5 h n) (mj (h n) (h 0))
def jq(x:Nat):Nat->Nat
 |0=>0
 |n+1=>jq x n+(if x.testBit n=true then 1 else 0)
theorem CR(x:Nat):∀n,jq x n<=n
 |0=>ae _
 |n+1=>by have:=CR x n;unfold jq;split<;>omega
theorem wR(x:Nat):∀n,jq x (n+1)=x%2+jq (x/2) n
 |0=>by
  simp only[jq,cO,decide_eq_true_eq];split<;>omega
 |n+1=>by
  have h:=wR x n;unfold jq;rw[h,Nat.testBit_succ];omega
theorem sy:∀n x,Lib.popAux n x=jq x n
 |0,x=>rfl
 |n+1,x=>by rw[wR,Lib.popAux,sy n (x/2)]
def rep(m:Nat):Nat->Nat
 |0=>0
 |n+1=>m+256*rep m n
def g1(b:Nat):Nat:=(b/2&&&85)+(b&&&85)
def g2(b:Nat):Nat:=(b/4&&&51)+(b&&&51)
def g3(b:Nat):Nat:=(b/16+b)&&&15
def S1(n x:Nat):Nat:=(x/2&&&rep 85 n)+(x&&&rep 85 n)
def S2(n x:Nat):Nat:=(x/4&&&rep 51 n)+(x&&&rep 51 n)
def S3(n x:Nat):Nat:=(x/16+x)&&&rep 15 n
def dig:Nat->Nat->Nat
 |0,_=>0
 |n+1,x=>Lib.popAux 8 (x%256)+256*dig n (x/256)
theorem uB(m n:Nat):rep m (n+1)=m+256*rep m n:=rfl
theorem nF(x m q:Nat)(hm:m<256):x&&&(m+256*q)=(x%256&&&m)+256*(x/256&&&q):=by
 have h1:(x&&&(m+256*q))%2^8=(x%2^8&&&(m+256*q)%2^8):=dW;have h2:(x&&&(m+256*q))/2^8=(x/2^8&&&(m+256*q)/2^8):=Nat.and_div_two_pow;have e1:(m+256*q)%2^8=m:=by omega
 have e2:(m+256*q)/2^8=q:=by omega
 rw[e1]at h1;rw[e2]at h2;have e3:(2:Nat)^8=256:=by decide
 rw[e3]at h1 h2;rw[<-h1,<-h2];omega
theorem lQ(x k m:Nat)(hm:m<2^k):x&&&m=x%2^k&&&m:=by
 have h1:(x&&&m)%2^k=(x%2^k&&&m%2^k):=dW;rw[cL hm,cL (dH dU hm)]at h1;exact h1
theorem Io(n:Nat)(hb:b<256):S1 (n+1) (b+256*y)=g1 b+256*S1 n y:=by
 unfold S1 g1;rw[uB];rw[nF _ 85 _ (by decide),nF _ 85 _ (by decide)];have e1:(b+256*y)/2/256=y/2:=by omega
 have e2:(b+256*y)/256=y:=by omega
 have e3:(b+256*y)%256=b:=by omega
 have e4:(b+256*y)/2%256&&&85=b/2&&&85:=by
  rw[lQ _ 7 85 (by decide),lQ (b/2) 7 85 (by decide)];congr 1;omega
 rw[e1,e2,e3,e4];omega
theorem IB(n:Nat)(hb:b<256):S2 (n+1) (b+256*y)=g2 b+256*S2 n y:=by
 unfold S2 g2;rw[uB];rw[nF _ 51 _ (by decide),nF _ 51 _ (by decide)];have e1:(b+256*y)/4/256=y/4:=by omega
 have e2:(b+256*y)/256=y:=by omega
 have e3:(b+256*y)%256=b:=by omega
 have e4:(b+256*y)/4%256&&&51=b/4&&&51:=by
  rw[lQ _ 6 51 (by decide),lQ (b/4) 6 51 (by decide)];congr 1;omega
 rw[e1,e2,e3,e4];omega
theorem IM(n:Nat)(hb:b<=68)(hy:y%16<=4):S3 (n+1) (b+256*y)=g3 b+256*S3 n y:=by
 unfold S3 g3;rw[uB];rw[nF _ 15 _ (by decide)];have e1:((b+256*y)/16+(b+256*y))/256=y/16+y:=by omega
 have e4:((b+256*y)/16+(b+256*y))%256&&&15=(b/16+b)&&&15:=by
  rw[lQ _ 4 15 (by decide),lQ (b/16+b) 4 15 (by decide)];congr 1;omega
 rw[e1,e4]
theorem g_all:∀b:Fin 256,g1 b.val<256∧g2 (g1 b.val)<=68∧g2 (g1 b.val)%16<=4∧g3 (g2 (g1 b.val))=Lib.popAux 8 b.val:=by decide+kernel
theorem swar:∀n x,x<256^n->S3 n (S2 n (S1 n x))=dig n x∧S2 n (S1 n x)%16<=4
 |0,x,h=>by simp[S1,S2,S3,dig,rep]
 |n+1,x,h=>by
  obtain⟨i1,i2⟩:=swar n (x/256) (by rw[dZ]at h;omega);obtain⟨h1,h2,h3,h4⟩:=g_all ⟨x%256,by omega⟩;simp only at h1 h2 h3 h4;have e:x=x%256+256*(x/256):=by omega
  have e1:S1 (n+1) x=g1 (x%256)+256*S1 n (x/256):=by
   rw[<-Io n (by omega),<-e]
  rw[e1,IB n h1,IM n h2 i2,i1,h4];exact⟨rfl,by omega⟩
theorem l6(n x:Nat):Lib.popAux (n+8) x=Lib.popAux 8 (x%256)+Lib.popAux n (x/256):=by
 show x%2+(x/2%2+(x/2/2%2+(x/2/2/2%2+(x/2/2/2/2%2+(x/2/2/2/2/2%2+(x/2/2/2/2/2/2%2+(x/2/2/2/2/2/2/2%2+Lib.popAux n (x/2/2/2/2/2/2/2/2))))))))=_;have e:x/2/2/2/2/2/2/2/2=x/256:=by omega
 rw[e];simp only[Lib.popAux];omega
theorem mM(x:Nat):Lib.popAux 8 x<=8:=by rw[sy];exact CR _ _
theorem GL{x:Nat}(hx:x<18446744073709551616)(hy:y=dig 8 x):
 y+y/256<18446744073709551616∧(y+y/256)+(y+y/256)/65536<18446744073709551616∧
 ((y+y/256)+(y+y/256)/65536)+((y+y/256)+(y+y/256)/65536)/4294967296<9223372036854775808∧
 (((y+y/256)+(y+y/256)/65536)+((y+y/256)+(y+y/256)/65536)/4294967296)%128=jq x 64:=by
 have e:jq x 64=Lib.popAux 64 x:=(sy 64 x).symm
 rw[e,l6 56,l6 48,l6 40,l6 32,l6 24,l6 16,l6 8]
 have e8:x/256/256/256/256/256/256/256=x/256/256/256/256/256/256/256%256:=by omega
 rw[e8]
 clear e8
 simp only[dig]at hy
 have p0:=mM (x%256)
 have p1:=mM (x/256%256)
 have p2:=mM (x/256/256%256)
 have p3:=mM (x/256/256/256%256)
 have p4:=mM (x/256/256/256/256%256)
 have p5:=mM (x/256/256/256/256/256%256)
 have p6:=mM (x/256/256/256/256/256/256%256)
 have p7:=mM (x/256/256/256/256/256/256/256%256)
 generalize Lib.popAux 8 (x%256)=c0 at*
 generalize Lib.popAux 8 (x/256%256)=c1 at*
 generalize Lib.popAux 8 (x/256/256%256)=c2 at*
 generalize Lib.popAux 8 (x/256/256/256%256)=c3 at*
 generalize Lib.popAux 8 (x/256/256/256/256%256)=c4 at*
 generalize Lib.popAux 8 (x/256/256/256/256/256%256)=c5 at*
 generalize Lib.popAux 8 (x/256/256/256/256/256/256%256)=c6 at*
 generalize Lib.popAux 8 (x/256/256/256/256/256/256/256%256)=c7 at*
 clear hx e
 have a1:y/256=c1+256*(c2+256*(c3+256*(c4+256*(c5+256*(c6+256*c7))))):=by omega
 obtain⟨y1,hy1⟩:∃y1,y1=y+y/256:=⟨_,rfl⟩
 rw[<-hy1]
 have b1:y1=(c0+c1)+256*((c1+c2)+256*((c2+c3)+256*((c3+c4)+256*((c4+c5)+256*((c5+c6)+256*((c6+c7)+256*c7)))))):=by omega
 clear hy1 a1 hy
 have a2:y1/65536=(c2+c3)+256*((c3+c4)+256*((c4+c5)+256*((c5+c6)+256*((c6+c7)+256*c7)))):=by omega
 obtain⟨y2,hy2⟩:∃y2,y2=y1+y1/65536:=⟨_,rfl⟩
 rw[<-hy2]
 have b2:y2=(c0+c1+c2+c3)+256*((c1+c2+c3+c4)+256*((c2+c3+c4+c5)+256*((c3+c4+c5+c6)+256*((c4+c5+c6+c7)+256*((c5+c6+c7)+256*((c6+c7)+256*c7)))))):=by omega
 have l1:y1<18446744073709551616:=by omega
 clear hy2 a2 b1
 have a3:y2/4294967296=(c4+c5+c6+c7)+256*((c5+c6+c7)+256*((c6+c7)+256*c7)):=by omega
 refine⟨l1,by omega,by omega,by omega⟩
end Go.Proofs.YtdihdapmphkhpaaGreat
namespace Go.Proofs.YtdihdapmphkhpaaGreat
open Go.RowKit
theorem IX(a b:Nat)(ha:a<9223372036854775808)(hb:b<9223372036854775808):bits .and .i64 (a:Int) (b:Int)=((a&&&b:Nat):Int):=by
 have hx:a&&&b<2^63:=Nat.and_lt_two_pow _ (by omega);have h1:(BitVec.ofInt 64 (a:Int)).toNat=a:=by
  rw[BitVec.ofInt_natCast,BitVec.toNat_ofNat];exact cL (by omega)
 have h2:(BitVec.ofInt 64 (b:Int)).toNat=b:=by
  rw[BitVec.ofInt_natCast,BitVec.toNat_ofNat];exact cL (by omega)
 show IntKind.i64.wrap ((BitVec.ofInt 64 (a:Int)&&&BitVec.ofInt 64 (b:Int)).toNat:Int)=_;rw[BitVec.toNat_and,h1,h2,aT];omega
theorem wL(x:Nat)(w:World)(hx:x<18446744073709551616):
 Calls Tryz.prog 164 #[.int .u64 (x:Int)] w fun e w'=>e=.returned (.int .i64 ((jq x 64:Nat):Int))∧w'=w:=by
 obtain⟨p1,hp1⟩:∃p1:Nat,p1=x/2&&&6148914691236517205:=⟨_,rfl⟩;obtain⟨p2,hp2⟩:∃p2:Nat,p2=x&&&6148914691236517205:=⟨_,rfl⟩;have l1:p1<=6148914691236517205:=hp1▸dU;have l2:p2<=6148914691236517205:=hp2▸dU;have a1:bits .and .u64 ((x:Int)/2) 6148914691236517205=(p1:Int):=by
  rw[hp1,show(x:Int)/2=((x/2:Nat):Int)by omega];exact u64_and _ 6148914691236517205 (by omega) (by decide)
 have a2:bits .and .u64 (x:Int) 6148914691236517205=(p2:Int):=by
  rw[hp2];exact u64_and _ 6148914691236517205 (by omega) (by decide)
 obtain⟨q1,hq1⟩:∃q1:Nat,q1=(p1+p2)/4&&&3689348814741910323:=⟨_,rfl⟩;obtain⟨q2,hq2⟩:∃q2:Nat,q2=(p1+p2)&&&3689348814741910323:=⟨_,rfl⟩;have l3:q1<=3689348814741910323:=hq1▸dU;have l4:q2<=3689348814741910323:=hq2▸dU;have a3:bits .and .u64 (((p1:Int)+p2)/4) 3689348814741910323=(q1:Int):=by
  rw[hq1,show((p1:Int)+p2)/4=(((p1+p2)/4:Nat):Int)by omega];exact u64_and _ 3689348814741910323 (by omega) (by decide)
 have a4:bits .and .u64 ((p1:Int)+p2) 3689348814741910323=(q2:Int):=by
  rw[hq2,show((p1:Int)+p2)=((p1+p2:Nat):Int)by omega];exact u64_and _ 3689348814741910323 (by omega) (by decide)
 obtain⟨y,hy⟩:∃y:Nat,y=((q1+q2)/16+(q1+q2))&&&1085102592571150095:=⟨_,rfl⟩;have a5:bits .and .u64 (((q1:Int)+q2)/16+((q1:Int)+q2)) 1085102592571150095=(y:Int):=by
  rw[hy,show((q1:Int)+q2)/16+((q1:Int)+q2)=(((q1+q2)/16+(q1+q2):Nat):Int)by omega];exact u64_and _ 1085102592571150095 (by omega) (by decide)
 have HD:y=dig 8 x:=by
  have:=(swar 8 x (by simpa using hx)).1;rw[<-this,hy,hq1,hq2,hp1,hp2];rfl
 obtain⟨z1,z2,z3,z4⟩:=GL hx HD;have HZ:Hid ((((y+y/256)+(y+y/256)/65536)+((y+y/256)+(y+y/256)/65536)/4294967296)%128=jq x 64):=z4;clear hp1 hp2 hq1 hq2 hy HD z4;have a6:bits .and .i64 ((y:Int)+(y:Int)/256+((y:Int)+(y:Int)/256)/65536+((y:Int)+(y:Int)/256+((y:Int)+(y:Int)/256)/65536)/4294967296) 127=((jq x 64:Nat):Int):=by
  rw[<-HZ.out,show((y:Int)+(y:Int)/256+((y:Int)+(y:Int)/256)/65536+((y:Int)+(y:Int)/256+((y:Int)+(y:Int)/256)/65536)/4294967296)=(((((y+y/256)+(y+y/256)/65536)+((y+y/256)+(y+y/256)/65536)/4294967296):Nat):Int)by omega];rw[show(127:Int)=((127:Nat):Int)from rfl,IX _ 127 z3 (by decide),nat_mask7]
 generalize jq x 64=R at*;clear HZ;go_enter Tryz.func164,Tryz.ntmps164;go_wp2;go_ret;exact⟨rfl,rfl⟩
end Go.Proofs.YtdihdapmphkhpaaGreat
namespace Go.Proofs.YtdihdapmphkhpaaGreat
structure Lin{α:Type}(ord:α->α->Int):Prop where
 self:∀a,ord a a=0
 zero:∀a b,ord a b=0->a=b
 tE:∀a b,ord a b= -ord b a
 trans:∀a b c,ord a b<0->ord b c<0->ord a c<0
section
variable{α:Type}{ord:α->α->Int}
theorem Lin.le_lt(L:Lin ord){a b c:α}(h:ord a b<=0)(h':ord b c<0):ord a c<0:=by
 by_cases e:ord a b=0
 ·rw[L.zero _ _ e];exact h'
 exact L.trans _ _ _ (by omega) h'
theorem Lin.lt_le(L:Lin ord){a b c:α}(h:ord a b<0)(h':ord b c<=0):ord a c<0:=by
 by_cases e:ord b c=0
 ·rw[<-L.zero _ _ e];exact h
 exact L.trans _ _ _ h (by omega)
theorem Lin.le_trans(L:Lin ord){a b c:α}(h:ord a b<=0)(h':ord b c<=0):ord a c<=0:=by
 by_cases e:ord a b=0
 ·rw[L.zero _ _ e];exact h'
 have:=L.lt_le (a:=a) (b:=b) (c:=c) (by omega) h';omega
def rW(ord:α->α->Int)(r:List α):Prop:=r.Pairwise fun a b=>ord a b<0
def jh(ord:α->α->Int)(cs r:List α):Prop:=rW ord r∧∀c,c∈r↔c∈cs
theorem DC(L:Lin ord){r s:List α}(h:rW ord r)(h':rW ord s)(e:∀c,c∈r↔c∈s):r=s:=by
 induction r generalizing s with
 |nil=>cases s with
  |nil=>rfl
  |cons b s=>exact absurd ((e b).2 (by simp)) (by simp)
 |cons a r ih=>cases s with
  |nil=>exact absurd ((e a).1 (by simp)) (by simp)
  |cons b s=>
   have ha:=dh.1 h;have hb:=dh.1 h';have eab:a=b:=by
    have m1:=(e a).1 (by simp);have m2:=(e b).2 (by simp);simp only[bF]at m1 m2;rcases m1 with m1|m1
    ·exact m1
    rcases m2 with m2|m2
    ·exact m2.symm
    have g1:=hb.1 a m1;have g2:=ha.1 b m2;have:=L.tE a b;omega
   subst eab;congr 1;refine ih ha.2 hb.2 fun c=> ?_
   constructor
   ·intro hc;have:=(e c).1 (by simp[hc]);simp only[bF]at this;rcases this with rfl|this
    ·have:=ha.1 c hc;rw[L.self]at this;omega
    exact this
   intro hc;have:=(e c).2 (by simp[hc]);simp only[bF]at this;rcases this with rfl|this
   ·have:=hb.1 c hc;rw[L.self]at this;omega
   exact this
theorem vJ(L:Lin ord){cs r s:List α}(h:jh ord cs r)(h':jh ord cs s):r=s:=DC L h.1 h'.1 fun c=>(h.2 c).trans (h'.2 c).symm
theorem AQ{cs l r:List α}(h:jh ord l r)(hp:∀c,c∈l↔c∈cs):jh ord cs r:=⟨h.1,fun c=>(h.2 c).trans (hp c)⟩
theorem lV(L:Lin ord){r:List α}(h:rW ord r):r.Nodup:=h.imp fun{a b}hab e=>by subst e;rw[L.self]at hab;omega
def mC(ord:α->α->Int)(out:List α)(c:α):List α:=if(∃z,out.getLast? =some z∧ord z c=0)then out else out++[c]
theorem xe(c:α):mC ord [] c=[c]:=by simp[mC]
theorem uz{out:List α}{c z:α}(h:out.getLast? =some z)(h0:ord z c=0):mC ord out c=out:=if_pos ⟨z,h,h0⟩
theorem uK{out:List α}{c z:α}(h:out.getLast? =some z)(h0:ord z c≠0):mC ord out c=out++[c]:=if_neg (by rintro⟨y,h1,h2⟩;rw[h]at h1;cases h1;exact h0 h2)
theorem CH(L:Lin ord)(out:List α)(c:α):(mC ord out c).getLast? =some c:=by
 unfold mC;split
 ·rename_i h;obtain⟨z,h1,h2⟩:=h;rw[h1,L.zero _ _ h2]
 simp
theorem EI (L : Lin ord) {out : List α} {c : α} (h : rW ord out) (hc : ∀ o ∈ out, ord o c <= 0) : rW ord (mC ord out c) ∧ (∀ d, d ∈ mC ord out c ↔ d ∈ out ∨ d = c) := by
  rcases List.eq_nil_or_concat out with rfl | ⟨t, z, rfl⟩
  · rw [xe]; simp [rW]
  · have hz : (t.concat z).getLast? = some z := by simp
    by_cases e : ord z c = 0
    · rw [uz hz e]
      obtain rfl := L.zero _ _ e
      refine ⟨h, fun d => ⟨fun hd => .inl hd, fun hd => ?_⟩⟩
      rcases hd with hd | rfl
      · exact hd
      · simp
    · rw [uK hz e]
      refine ⟨?_, fun d => by simp [or_assoc]⟩
      refine cW.2 ⟨h, by simp, fun a ha b hb => ?_⟩
      simp only [aV] at hb
      subst hb
      have hzc : ord z b < 0 := by have := hc z (by simp); omega
      simp only [dR, bj, aV] at ha
      rcases ha with ha | rfl
      · have h2 : ord a z < 0 := by
          have := h
          unfold rW at this
          rw [dR] at this
          exact (cW.1 this).2.2 a ha z (by simp)
        exact L.trans _ _ _ h2 hzc
      · exact hzc
theorem BX(L:Lin ord){l:List α}(hl:l.Pairwise fun a b=>ord a b<=0):jh ord l (l.foldl (mC ord) []):=by
 have key:∀(l out cs:List α),(l.Pairwise fun a b=>ord a b<=0)->rW ord out->(∀a∈out,∀b∈l,ord a b<=0)->(∀c,c∈cs↔c∈out∨c∈l)->jh ord cs (l.foldl (mC ord) out):=by
  intro l;induction l with
  |nil=>intro out cs _ h2 _ h4;exact⟨h2,fun c=>by rw[h4 c];simp⟩
  |cons a l ih=>
   intro out cs h1 h2 h3 h4;have g:=dh.1 h1;obtain⟨p1,p2⟩:=EI L h2 (fun o ho=>h3 o ho a (by simp));refine ih (mC ord out a) cs g.2 p1 ?_ ?_
   ·intro c hc b hb;rcases(p2 c).1 hc with hc|rfl
    ·exact h3 c hc b (by simp[hb])
    exact g.1 b hb
   intro c;rw[h4 c,p2 c];simp only[bF];constructor
   ·rintro(q|q|q)
    ·exact .inl (.inl q)
    ·exact .inl (.inr q)
    exact .inr q
   rintro((q|q)|q)
   ·exact .inl q
   ·exact .inr (.inl q)
   exact .inr (.inr q)
 exact key l [] l hl List.Pairwise.nil (by simp) (by simp)
def gQ(ord:α->α->Int)(l:List α)(k:Nat):List α:=(l.take k).foldl (mC ord) []
theorem rf(l:List α):gQ ord l 0=[]:=rfl
theorem l7{l:List α}{k:Nat}(h:k<l.length):gQ ord l (k+1)=mC ord (gQ ord l k) l[k]:=by
 have e:l.take (k+1)=l.take k++[l[k]]:=by
  rw[cK,ag h];rfl
 rw[gQ,e,List.foldl_append];rfl
theorem vI(L:Lin ord){l:List α}{k:Nat}(h:k<l.length):(gQ ord l (k+1)).getLast? =some l[k]:=by
 rw[l7 h];exact CH L _ _
theorem EM{l:List α}(h:0<l.length):gQ ord l 1=[l[0]]:=by
 rw[l7 h,rf,xe]
theorem Cx(L:Lin ord){l:List α}{k:Nat}(h:k+1<l.length)(he:ord l[k+1] l[k]=0):gQ ord l (k+2)=gQ ord l (k+1):=by
 rw[l7 h,uz (vI L (by omega))];rw[L.tE,he];rfl
theorem uI(L:Lin ord){l:List α}{k:Nat}(h:k+1<l.length)(he:ord l[k+1] l[k]≠0):gQ ord l (k+2)=gQ ord l (k+1)++[l[k+1]]:=by
 rw[l7 h,uK (vI L (by omega))];rw[L.tE];omega
theorem EH(l:List α)(k:Nat)(h:k<=l.length):(gQ ord l k).length<=k:=by
 induction k with
 |zero=>simp[rf]
 |succ k ih=>
  have:=ih (by omega);rw[l7 (by omega),mC];split
  ·omega
  simp;omega
theorem Ex(L:Lin ord){l:List α}{k:Nat}(h:k<=l.length)(hd:∀j(hj:j+1<k),ord (l[j+1]'(by omega)) (l[j]'(by omega))≠0):gQ ord l k=l.take k:=by
 induction k with
 |zero=>simp[rf]
 |succ k ih=>
  have e:l.take (k+1)=l.take k++[l[k]]:=by
   rw[cK,ag (by omega)];rfl
  cases k with
  |zero=>rw[EM (by omega),e];simp
  |succ k=>
   rw[uI L (by omega) (hd k (by omega)),ih (by omega) (fun j hj=>hd j (by omega)),e]
theorem Cj(L:Lin ord){l:List α}(hl:l.Pairwise fun a b=>ord a b<=0):jh ord l (gQ ord l l.length):=by
 rw[gQ,ct];exact BX L hl
structure mP(ord:α->α->Int)(cs out:List α):Prop where
 asc:rW ord out
 sub:∀c∈out,c∈cs
 low:∀c∈cs,c∈out∨∀o∈out,ord o c<0
theorem mP.nil(cs:List α):mP ord cs []:=⟨List.Pairwise.nil,by simp,fun c hc=>.inr (by simp)⟩
theorem mP.next(L:Lin ord){cs out:List α}{b:α}(h:mP ord cs out)(hb:b∈cs)(h1:∀o∈out,ord o b<0)(h2:∀c∈cs,(∀o∈out,ord o c<0)->ord b c<=0):mP ord cs (out++[b]):=by
 refine⟨cW.2 ⟨h.asc,by simp,fun a ha c hc=> ?_⟩,?_,?_⟩
 ·simp only[aV]at hc;subst hc;exact h1 a ha
 ·intro c hc;simp only[bj,aV]at hc;rcases hc with hc|rfl
  ·exact h.sub c hc
  exact hb
 intro c hc;rcases h.low c hc with g|g
 ·exact .inl (by simp[g])
 by_cases e:ord b c=0
 ·exact .inl (by simp[L.zero _ _ e])
 refine .inr fun o ho=> ?_
 simp only[bj,aV]at ho;rcases ho with ho|rfl
 ·exact g o ho
 have:=h2 c hc g;omega
theorem mP.done{cs out:List α}(h:mP ord cs out)(hn:∀c∈cs,¬∀o∈out,ord o c<0):jh ord cs out:=
 ⟨h.asc,fun c=>⟨h.sub c,fun hc=>(h.low c hc).resolve_right (hn c hc)⟩⟩
theorem GV (L : Lin ord) {out : List α} {z c : α} (h : rW ord out) (hz : out.getLast? = some z) : (∀ o ∈ out, ord o c < 0) ↔ ord z c < 0 := by
  rcases List.eq_nil_or_concat out with rfl | ⟨t, y, rfl⟩
  · cases hz
  · have : y = z := by simpa using hz
    subst this
    constructor
    · intro h1; exact h1 y (by simp)
    · intro h1 o ho
      simp only [dR, bj, aV] at ho
      rcases ho with ho | rfl
      · have h2 : ord o y < 0 := by
          have := h
          unfold rW at this
          rw [dR] at this
          exact (cW.1 this).2.2 o ho y (by simp)
        exact L.trans _ _ _ h2 h1
      · exact h1
theorem pW{r:List α}:∀{cs:List α},r.Nodup->(∀c∈r,c∈cs)->r.length<=cs.length:=by
 induction r with
 |nil=>intro cs _ _;simp
 |cons a r ih=>
  intro cs hn hs;obtain⟨s,t,rfl⟩:=List.append_of_mem (hs a (by simp));have h1:=List.nodup_cons.1 hn;have:=ih (cs:=s++t) h1.2 (fun c hc=>by
   have h2:=hs c (by simp[hc])
   simp only[bj,bF]at h2⊢
   rcases h2 with h2|rfl|h2
   ·exact .inl h2
   ·exact absurd hc h1.1
   exact .inr h2)
  simp only[aj,aq]at this⊢;omega
theorem mP.len(L:Lin ord){cs out:List α}(h:mP ord cs out):out.length<=cs.length:=
 pW (lV L h.asc) h.sub
end
end Go.Proofs.YtdihdapmphkhpaaGreat
namespace Go.Proofs.YtdihdapmphkhpaaGreat
def fM(a b:Int):Int:=if a<b then-1 else if b<a then 1 else 0
def ordL:List Int->List Int->Int
 |[],[]=>0
 |[],_::_=> -1
 |_::_,[]=>1
 |a::r,b::s=>if fM a b=0 then ordL r s else fM a b
def ordC(a b:C):Int:=if fM a.et b.et≠0 then fM a.et b.et else if fM a.nr b.nr≠0 then fM a.nr b.nr else ordL a.args b.args
theorem EE(a b:Int):fM a b= -fM b a:=by unfold fM;split<;>split<;>(try split)<;>omega
theorem sU{a b:Int}(h:fM a b=0):a=b:=by unfold fM at h;split at h<;>(try split at h)<;>omega
theorem qa(a:Int):fM a a=0:=by unfold fM;simp
theorem ua{a b:Int}:fM a b<0↔a<b:=by unfold fM;split<;>(try split)<;>omega
def Asc(r:List C):Prop:=r.Pairwise fun a b=>ordC a b<0
def BU(cs r:List C):Prop:=Asc r∧∀c,c∈r↔c∈cs
structure Mid(cs out x y:List C):Prop where
 ao:Asc out
 ax:Asc x
 ay:Asc y
 ox:∀a∈out,∀b∈x,ordC a b<=0
 oy:∀a∈out,∀b∈y,ordC a b<=0
 mem:∀c,c∈cs↔c∈out∨c∈x∨c∈y
theorem Mid.done{cs out:List C}(h:Mid cs out [] []):BU cs out:=⟨h.ao,fun c=>by rw[h.mem c];simp⟩
theorem linI:Lin fM:=⟨qa,fun a b h=>sU h,EE,fun a b c h h'=>ua.2 (by have:=ua.1 h;have:=ua.1 h';omega)⟩
def j8{α:Type}(ord:α->α->Int):List α->List α->Int
 |[],[]=>0
 |[],_::_=> -1
 |_::_,[]=>1
 |a::r,b::s=>if ord a b=0 then j8 ord r s else ord a b
theorem Aj{α:Type}{ord:α->α->Int}(L:Lin ord):Lin (j8 ord):=by
 refine⟨?_,?_,?_,?_⟩
 ·intro l;induction l with
  |nil=>rfl
  |cons a l ih=>rw[j8,if_pos (L.self a)];exact ih
 ·intro l;induction l with
  |nil=>intro m h;cases m with
   |nil=>rfl
   |cons b m=>simp[j8]at h
  |cons a l ih=>intro m h;cases m with
   |nil=>simp[j8]at h
   |cons b m=>
    rw[j8]at h;by_cases e:ord a b=0
    ·rw[if_pos e]at h;rw[L.zero _ _ e,ih m h]
    rw[if_neg e]at h;exact absurd h e
 ·intro l;induction l with
  |nil=>intro m;cases m<;>rfl
  |cons a l ih=>intro m;cases m with
   |nil=>rfl
   |cons b m=>
    rw[j8,j8];have h1:=L.tE a b;by_cases e:ord a b=0
    ·rw[if_pos e,if_pos (by omega)];exact ih m
    rw[if_neg e,if_neg (by omega)];exact h1
 intro l;induction l with
 |nil=>intro m n h1 h2;cases m with
  |nil=>simp[j8]at h1
  |cons b m=>cases n with
   |nil=>simp[j8]at h2
   |cons c n=>simp[j8]
 |cons a l ih=>intro m n h1 h2;cases m with
  |nil=>simp[j8]at h1
  |cons b m=>cases n with
   |nil=>simp[j8]at h2
   |cons c n=>
    rw[j8]at h1 h2⊢;by_cases e1:ord a b=0
    ·rw[if_pos e1]at h1;have:=L.zero _ _ e1;subst this;by_cases e2:ord a c=0
     ·rw[if_pos e2]at h2⊢;exact ih m n h1 h2
     rw[if_neg e2]at h2⊢;exact h2
    rw[if_neg e1]at h1;by_cases e2:ord b c=0
    ·have:=L.zero _ _ e2;subst this;rw[if_neg e1];exact h1
    rw[if_neg e2]at h2;have h3:=L.trans _ _ _ h1 h2;rw[if_neg (by omega)];exact h3
def rG(x y:Int):Int:=if x=0 then y else x
def my(c d:K):Int:=rG (fM c.kind d.kind) (rG (fM c.a d.a) (fM c.b d.b))
theorem pB(c d:K):my c d=j8 fM [c.kind,c.a,c.b] [d.kind,d.a,d.b]:=by
 simp only[my,rG,j8];split
 ·split
  ·split
   ·assumption
   rfl
  rfl
 rfl
theorem linK:Lin my:=by
 have L:=Aj linI;refine⟨fun a=>by rw[pB];exact L.self _,fun a b h=> ?_,fun a b=>by rw[pB,pB];exact L.tE _ _,fun a b c h h'=>by rw[pB]at*;exact L.trans _ _ _ h h'⟩;rw[pB]at h;have:=L.zero _ _ h;obtain⟨k,x,y⟩:=a;obtain⟨k',x',y'⟩:=b;simp at this;obtain⟨rfl,h1,h2⟩:=this;have e1:x=x':=by omega
 have e2:y=y':=by omega
 subst e1;subst e2;rfl
abbrev ie:List K->List K->Int:=j8 my
theorem ou:Lin ie:=Aj linK
theorem zW{x:Nat}:∀n,jq x n=1->∃k,k<n∧x.testBit k=true∧∀j,j<n->x.testBit j=true->j=k
 |0,h=>by simp[jq]at h
 |n+1,h=>by
  rw[jq]at h;by_cases e:x.testBit n=true
  ·rw[if_pos e]at h;have h0:∀m,jq x m=0->∀j,j<m->x.testBit j=false:=by
    intro m;induction m with
    |zero=>intro _ j hj;omega
    |succ m ih=>
     intro h j hj;rw[jq]at h;by_cases e:x.testBit m=true
     ·rw[if_pos e]at h;omega
     rw[if_neg e]at h;by_cases hjm:j=m
     ·subst hjm;simpa using e
     exact ih (by omega) j (by omega)
   refine⟨n,by omega,e,fun j hj hb=> ?_⟩;by_cases hjn:j=n
   ·exact hjn
   rw[h0 n (by omega) j (by omega)]at hb;exact absurd hb (by decide)
  rw[if_neg e]at h;obtain⟨k,hk,h1,h2⟩:=zW n (by omega);refine⟨k,by omega,h1,fun j hj hb=> ?_⟩;by_cases hjn:j=n
  ·subst hjn;exact absurd hb e
  exact h2 j (by omega) hb
theorem zR{k n:Nat}(h:k<n):jq (2^k) n=1:=by
 have z:∀m,m<=k->jq (2^k) m=0:=by
  intro m;induction m with
  |zero=>intro _;rfl
  |succ m ih=>intro hm;rw[jq,ih (by omega),bW,if_neg (by simp;omega)]
 induction n with
 |zero=>omega
 |succ n ih=>
  rw[jq,bW];by_cases e:k=n
  ·subst e;rw[z k (ae _)];simp
  rw[ih (by omega),if_neg (by simpa using e)]
theorem tq{x:Nat}(hx:x<18446744073709551616):jq x 64=1↔∃k,k<64∧x=2^k:=by
 constructor
 ·intro h;obtain⟨k,hk,h1,h2⟩:=zW 64 h;refine⟨k,hk,bu fun i=> ?_⟩;rw[bW];by_cases hi:i<64
  ·cases hb:x.testBit i with
   |true=>have:=h2 i hi hb;simp[this]
   |false=>
    have:k≠i:=fun e=>by subst e;rw[h1]at hb;exact absurd hb (by decide)
    simp[this]
  rw[lv hx (by omega)];have:k≠i:=by omega
  simp[this]
 rintro⟨k,hk,rfl⟩;exact zR hk
def gl(a b:K):Option K:=
 if a.kind=1∧b.kind=1∧a.a=b.a∧jq (a.b^^^b.b) 64=1 then some (fI (a.a&&&inv (a.b^^^b.b)) (a.b&&&inv (a.b^^^b.b)))
 else match fB a,fB b with
 |some (l1,h1),some (l2,h2)=>if l2<=h1+1∧l1<=h2+1 then some (eF (min l1 l2) (max h1 h2))else none
 |_,_=>none
theorem yM{m x y k:Nat}(hm:m<18446744073709551616)(hx:m|||x=m)(hy:m|||y=m)(hk:k<64)(e:x^^^y=2^k):
 (m&&&inv (2^k))|||(x&&&inv (2^k))=m&&&inv (2^k)∧∀v,v<18446744073709551616->((v&&&(m&&&inv (2^k))=x&&&inv (2^k))↔(v&&&m=x∨v&&&m=y)):=by
 have hp:2^k<18446744073709551616:=cU (a:=2) (by omega) hk;have bi:∀i,(inv (2^k)).testBit i=(decide (i<64)&& !decide (k=i)):=fun i=>by rw[lI hp,bW]
 have vx:=kJ hx;have vy:=kJ hy;have be:∀i,(x.testBit i^^y.testBit i)=decide (k=i):=fun i=>by rw[<-dj,e,bW]
 have hbk:m.testBit k=true:=by
  have h1:=be k;simp only[decide_true]at h1
  cases hxk:x.testBit k with
  |true=>exact vx k hxk
  |false=>rw[hxk,Bool.false_xor]at h1;exact vy k h1
 constructor
 ·apply bu;intro i;simp only[cN,bI,bi];have:=vx i
  cases h1:x.testBit i<;>cases h2:m.testBit i<;>simp_all
 intro v hv;rw[gx,gx,gx];simp only[bI,bi];constructor
 ·intro h;by_cases hvk:v.testBit k=x.testBit k
  ·left;intro i;by_cases hi:k=i
   ·subst hi;rw[hbk,cF,hvk]
   have h1:=h i;by_cases h64:i<64
   ·simp[hi,h64]at h1;exact h1
   have b1:=lv hv (i:=i) (by omega);have b2:m.testBit i=false:=lv hm (by omega);have b3:x.testBit i=false:=by
    cases h3:x.testBit i with
    |false=>rfl
    |true=>rw[vx i h3]at b2;exact absurd b2 (by decide)
   simp[b1,b2,b3]
  right;intro i;by_cases hi:k=i
  ·subst hi;have h1:=be k;simp only[decide_true]at h1;rw[hbk,cF]
   cases h2:v.testBit k<;>cases h3:x.testBit k<;>cases h4:y.testBit k<;>simp_all
  have h1:=h i;have h5:=be i;rw[decide_eq_false hi]at h5;have h6:x.testBit i=y.testBit i:=by cases h3:x.testBit i<;>cases h4:y.testBit i<;>simp_all
  by_cases h64:i<64
  ·simp[hi,h64]at h1;rw[<-h6];exact h1
  have b1:=lv hv (i:=i) (by omega);have b2:m.testBit i=false:=lv hm (by omega);have b3:y.testBit i=false:=by
   cases h3:y.testBit i with
   |false=>rfl
   |true=>rw[vy i h3]at b2;exact absurd b2 (by decide)
  simp[b1,b2,b3]
 rintro(h|h)<;>intro i
 ·have h1:=h i;by_cases hi:k=i
  ·simp[hi]
  by_cases h64:i<64
  ·simp[hi,h64];exact h1
  simp[h64]
 have h1:=h i;have h5:=be i;by_cases hi:k=i
 ·simp[hi]
 rw[decide_eq_false hi]at h5;have h6:x.testBit i=y.testBit i:=by cases h3:x.testBit i<;>cases h4:y.testBit i<;>simp_all
 by_cases h64:i<64
 ·simp[hi,h64];rw[h6];exact h1
 simp[h64]
theorem uQ{a b c:K}(ha:fZ a)(hb:fZ b)(h:gl a b=some c):fZ c∧∀v,v<18446744073709551616->(eX c v=true↔(eX a v=true∨eX b v=true)):=by
 unfold gl at h;by_cases h0:a.kind=1∧b.kind=1∧a.a=b.a∧jq (a.b^^^b.b) 64=1
 ·rw[if_pos h0]at h;obtain⟨ak,am,ax⟩:=a;obtain⟨bk,bm,bx⟩:=b;obtain⟨k1,k2,rfl,hp⟩:=h0;simp only at k1 k2 hp h;subst k1;subst k2;have oa:=ha.ok;have ob:=hb.ok;have va:=K.gp ha.valid;have vb:=K.gp hb.valid;have ma:am|||ax=am:=by
   rcases va with h|⟨x,y,h,h'⟩|⟨x,y,h,h'⟩
   ·simp at h
   ·simp at h;obtain⟨rfl,rfl⟩:=h;exact h'
   simp at h
  have mb:am|||bx=am:=by
   rcases vb with h|⟨x,y,h,h'⟩|⟨x,y,h,h'⟩
   ·simp at h
   ·simp at h;obtain⟨rfl,rfl⟩:=h;exact h'
   simp at h
  obtain⟨k,hk,e⟩:=(tq (mj oa.2.2 ob.2.2)).1 hp;simp only at e;obtain⟨f1,f2⟩:=yM oa.2.1 ma mb hk e;rw[e]at h;injection h with h
  subst h;refine⟨pQ (sx oa.2.1) f1,fun v hv=> ?_⟩;rw[kL f1,fF,fF,fF];simp only[beq_iff_eq];exact f2 v hv
 rw[if_neg h0]at h
 cases e1:fB a with
 |none=>rw[e1]at h;simp at h
 |some p=>
  cases e2:fB b with
  |none=>rw[e1,e2]at h;simp at h
  |some q=>
   obtain⟨l1,h1⟩:=p;obtain⟨l2,h2⟩:=q;rw[e1,e2]at h;simp only at h;by_cases hr:l2<=h1+1∧l1<=h2+1
   ·rw[if_pos hr]at h;injection h with h
    subst h;have b1:=me ha.ok ha.valid e1;have b2:=me hb.ok hb.valid e2;have hlh:min l1 l2<=max h1 h2:=by omega
    have hhi:max h1 h2<18446744073709551616:=by omega
    refine⟨om hlh hhi,fun v hv=> ?_⟩;rw[lY hlh hhi hv,fN,pq ha.ok ha.valid e1 hv,pq hb.ok hb.valid e2 hv];simp only[aL,decide_eq_true_eq];omega
   rw[if_neg hr]at h;simp at h
theorem Cs{a b:K}(h:gl a b=none):gl b a=none:=by
 unfold gl at h⊢;by_cases h0:a.kind=1∧b.kind=1∧a.a=b.a∧jq (a.b^^^b.b) 64=1
 ·rw[if_pos h0]at h;simp at h
 rw[if_neg h0]at h;rw[if_neg (by rintro⟨h1,h2,h3,h4⟩;exact h0 ⟨h2,h1,h3.symm,by rw[Nat.xor_comm];exact h4⟩)]
 cases e1:fB a with
 |none=>cases e2:fB b<;>simp
 |some p=>
  cases e2:fB b with
  |none=>simp
  |some q=>
   obtain⟨l1,h1⟩:=p;obtain⟨l2,h2⟩:=q;rw[e1,e2]at h;simp only at h⊢;by_cases hr:l2<=h1+1∧l1<=h2+1
   ·rw[if_pos hr]at h;simp at h
   rw[if_neg (by rintro⟨x,y⟩;exact hr ⟨y,x⟩)]
end Go.Proofs.YtdihdapmphkhpaaGreat
