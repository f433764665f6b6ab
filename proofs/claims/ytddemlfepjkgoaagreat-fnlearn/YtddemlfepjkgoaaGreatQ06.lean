import Derived.Test.YtddemlfepjkgoaaGreatQ05
set_option linter.all false
set_option maxRecDepth 200000
set_option maxHeartbeats 16000000
namespace Go.Proofs.YtddemlfepjkgoaaGreat
def difN(vs:List Nat):Nat->Nat
 |0=>0
 |n+1=>difN vs n|||(vs.getD n 0^^^vs.getD 0 0)
def onesN(vs:List Nat)(k:Nat):Nat->Nat
 |0=>0
 |n+1=>onesN vs k n+(if(vs.getD n 0).testBit k=true then 1 else 0)
def minN(vs:List Nat):Nat->Nat
 |0=>vs.getD 0 0
 |n+1=>if vs.getD n 0<minN vs n then vs.getD n 0 else minN vs n
def maxN(vs:List Nat):Nat->Nat
 |0=>vs.getD 0 0
 |n+1=>if maxN vs n<vs.getD n 0 then vs.getD n 0 else maxN vs n
def All64(vs:List Nat):Prop:=∀i,vs.getD i 0<18446744073709551616
def covA(vs:List Nat):Nat:=inv (difN vs vs.length)
def covB(vs:List Nat):Nat:=vs.getD 0 0&&&inv (difN vs vs.length)
theorem difN_lt{vs:List Nat}(h:All64 vs):∀n,difN vs n<18446744073709551616
 |0=>(by decide:0<18446744073709551616)
 |n+1=>or_lt (difN_lt h n) (xor_lt (h n) (h 0))
theorem difN_bit(vs:List Nat)(k:Nat):∀n,(difN vs n).testBit k=true↔∃j,j<n∧(vs.getD j 0).testBit k≠(vs.getD 0 0).testBit k
 |0=>by simp[difN]
 |n+1=>by
  simp only[difN,Nat.testBit_or,Nat.testBit_xor,Bool.or_eq_true,difN_bit vs k n];constructor
  ·rintro(⟨j,h1,h2⟩|h)
   ·exact⟨j,by omega,h2⟩
   exact⟨n,by omega,by revert h;cases(vs.getD n 0).testBit k<;>cases(vs.getD 0 0).testBit k<;>simp⟩
  rintro⟨j,h1,h2⟩;by_cases e:j=n
  ·subst e;right;revert h2;cases(vs.getD j 0).testBit k<;>cases(vs.getD 0 0).testBit k<;>simp
  exact .inl ⟨j,by omega,h2⟩
theorem onesN_le(vs:List Nat)(k:Nat):∀n,onesN vs k n<=n
 |0=>Nat.le_refl _
 |n+1=>by have:=onesN_le vs k n;unfold onesN;split<;>omega
theorem onesN_zero(vs:List Nat)(k:Nat):∀n,onesN vs k n=0↔∀j,j<n->(vs.getD j 0).testBit k=false
 |0=>by simp[onesN]
 |n+1=>by
  have:=onesN_zero vs k n;unfold onesN;constructor
  ·intro h j hj;by_cases e:j=n
   ·subst e;by_cases q:(vs.getD j 0).testBit k=true
    ·rw[if_pos q]at h;omega
    exact Bool.eq_false_iff.2 q
   exact this.1 (by omega) j (by omega)
  intro h;rw[this.2 (fun j hj=>h j (by omega)),if_neg (by rw[h n (by omega)];decide)]
theorem onesN_all(vs:List Nat)(k:Nat):∀n,onesN vs k n=n↔∀j,j<n->(vs.getD j 0).testBit k=true
 |0=>by simp[onesN]
 |n+1=>by
  have:=onesN_all vs k n;have hl:=onesN_le vs k n;unfold onesN;constructor
  ·intro h j hj;by_cases q:(vs.getD n 0).testBit k=true
   ·rw[if_pos q]at h;by_cases e:j=n
    ·subst e;exact q
    exact this.1 (by omega) j (by omega)
   rw[if_neg q]at h;omega
  intro h;rw[this.2 (fun j hj=>h j (by omega)),if_pos (h n (by omega))]
theorem covA_bit{vs:List Nat}(h:All64 vs)(hne:0<vs.length){k:Nat}(hk:k<64):(covA vs).testBit k=true↔(onesN vs k vs.length=0∨onesN vs k vs.length=vs.length):=by
 unfold covA;rw[bit_inv (difN_lt h _),decide_eq_true hk,Bool.true_and,Bool.not_eq_true',<-Bool.not_eq_true,difN_bit,onesN_zero,onesN_all];constructor
 ·intro q
  cases e:(vs.getD 0 0).testBit k with
  |false=>exact .inl fun j hj=>Decidable.byContradiction fun r=>q ⟨j,hj,by rw[e];exact r⟩
  |true=>exact .inr fun j hj=>Decidable.byContradiction fun r=>q ⟨j,hj,by rw[e];exact r⟩
 rintro(q|q)⟨j,hj,r⟩
 ·exact r (by rw[q j hj,q 0 hne])
 exact r (by rw[q j hj,q 0 hne])
theorem covB_bit{vs:List Nat}(h:All64 vs)(hne:0<vs.length){k:Nat}(hk:k<64):(covB vs).testBit k=true↔onesN vs k vs.length=vs.length:=by
 have hA:=covA_bit h hne hk;unfold covB;unfold covA at hA;rw[Nat.testBit_and,Bool.and_eq_true,hA,onesN_zero,onesN_all];constructor
 ·rintro⟨h1,h2|h2⟩
  ·rw[h2 0 hne]at h1;exact absurd h1 (by decide)
  exact h2
 intro q;exact⟨q 0 hne,.inr q⟩
theorem covA_lt(vs:List Nat):covA vs<18446744073709551616:=inv_lt _
theorem covB_lt{vs:List Nat}(h:All64 vs):covB vs<18446744073709551616:=and_lt (h 0)
theorem cov_valid(vs:List Nat):covA vs|||covB vs=covA vs:=by
 unfold covA covB;apply Nat.eq_of_testBit_eq;intro i;rw[Nat.testBit_or,Nat.testBit_and]
 cases(vs.getD 0 0).testBit i<;>cases(inv (difN vs vs.length)).testBit i<;>rfl
theorem cov_mask{vs:List Nat}(h:All64 vs){j:Nat}(hj:j<vs.length):vs.getD j 0&&&covA vs=covB vs:=by
 unfold covA covB;apply Nat.eq_of_testBit_eq;intro i;rw[Nat.testBit_and,Nat.testBit_and]
 cases e:(inv (difN vs vs.length)).testBit i with
 |false=>simp
 |true=>
  rw[bit_inv (difN_lt h _),Bool.and_eq_true,Bool.not_eq_true',<-Bool.not_eq_true,difN_bit]at e;have:(vs.getD j 0).testBit i=(vs.getD 0 0).testBit i:=Decidable.byContradiction fun r=>e.2 ⟨j,hj,r⟩
  rw[this]
def topN(x k:Nat):Nat:=x/2^k*2^k
theorem topN_0(x:Nat):topN x 0=x:=by simp[topN]
theorem topN_64{x:Nat}(h:x<18446744073709551616):topN x 64=0:=by
 unfold topN;rw[Nat.div_eq_of_lt (by exact h),Nat.zero_mul]
theorem topN_le(x k:Nat):topN x k<=x:=Nat.div_mul_le_self x _
theorem topN_yes{x k:Nat}(h:x.testBit k=true):topN x (k+1)|||2^k=topN x k:=by
 apply Nat.eq_of_testBit_eq;intro i;unfold topN;rw[Nat.testBit_or,bit_shift,bit_shift,Nat.testBit_two_pow];by_cases e:i=k
 ·subst e;simp[h]
 by_cases q:k<=i
 ·simp[q,show k+1<=i by omega,show¬k=i by omega]
 simp[q,show¬k+1<=i by omega,show¬k=i by omega]
theorem topN_no{x k:Nat}(h:x.testBit k=false):topN x (k+1)=topN x k:=by
 apply Nat.eq_of_testBit_eq;intro i;unfold topN;rw[bit_shift,bit_shift];by_cases e:i=k
 ·subst e;simp[h]
 by_cases q:k<=i
 ·simp[q,show k+1<=i by omega]
 simp[q,show¬k+1<=i by omega]
theorem minN_lt{vs:List Nat}(h:All64 vs):∀n,minN vs n<18446744073709551616
 |0=>h 0
 |n+1=>by have:=minN_lt h n;have:=h n;unfold minN;split<;>omega
theorem maxN_lt{vs:List Nat}(h:All64 vs):∀n,maxN vs n<18446744073709551616
 |0=>h 0
 |n+1=>by have:=maxN_lt h n;have:=h n;unfold maxN;split<;>omega
theorem minN_1(vs:List Nat):minN vs 1=vs.getD 0 0:=by simp[minN]
theorem maxN_1(vs:List Nat):maxN vs 1=vs.getD 0 0:=by simp[maxN]
theorem minN_le(vs:List Nat):∀n j,j<n->minN vs n<=vs.getD j 0
 |n+1,j,hj=>by
  unfold minN;by_cases e:j=n
  ·subst e;split<;>omega
  have:=minN_le vs n j (by omega);split<;>omega
theorem maxN_ge(vs:List Nat):∀n j,j<n->vs.getD j 0<=maxN vs n
 |n+1,j,hj=>by
  unfold maxN;by_cases e:j=n
  ·subst e;split<;>omega
  have:=maxN_ge vs n j (by omega);split<;>omega
theorem min_max(vs:List Nat):∀n,minN vs n<=maxN vs n
 |0=>Nat.le_refl _
 |n+1=>by
  have:=min_max vs n;unfold minN maxN;split<;>split<;>omega
def popN(x:Nat):Nat->Nat
 |0=>0
 |n+1=>popN x n+(if x.testBit n=true then 1 else 0)
theorem popN_le(x:Nat):∀n,popN x n<=n
 |0=>Nat.le_refl _
 |n+1=>by have:=popN_le x n;unfold popN;split<;>omega
theorem popN_half(x:Nat):∀n,popN x (n+1)=x%2+popN (x/2) n
 |0=>by
  simp only[popN,Nat.testBit_zero,decide_eq_true_eq];split<;>omega
 |n+1=>by
  have h:=popN_half x n;unfold popN;rw[h,Nat.testBit_succ];omega
theorem popAux_eq:∀n x,Lib.popAux n x=popN x n
 |0,x=>rfl
 |n+1,x=>by rw[popN_half,Lib.popAux,popAux_eq n (x/2)]
theorem low_next(z:Nat):low (z+1)=low z*2+1:=by
 have h1:=low_succ z;have h2:=low_succ (z+1);rw[Nat.pow_succ]at h2;omega
def moreK(a:Nat):Nat:=low (popN (inv a) 64)
def coverK(vs:List Nat)(form:Int):K:=
 if vs.length=0∨¬(0<=form∧form<=2)then⟨0,0,0⟩
 else if form=1∨(form=0∧moreK (covA vs)<=maxN vs vs.length-minN vs vs.length)then newMask (covA vs) (covB vs)
 else newRange (minN vs vs.length) (maxN vs vs.length)
theorem coverK_normal{vs:List Nat}(h:All64 vs)(form:Int):Normal (coverK vs form):=by
 unfold coverK;split
 ·exact .inl rfl
 split
 ·exact newMask_normal (covA_lt _) (cov_valid _)
 exact newRange_normal (min_max _ _) (maxN_lt h _)
theorem coverK_holds{vs:List Nat}(h:All64 vs)(form:Int){j:Nat}(hj:j<vs.length):holdsK (coverK vs form) (vs.getD j 0)=true:=by
 unfold coverK;split
 ·rfl
 split
 ·rw[newMask_holds (cov_valid _),holds_mask,cov_mask h hj];exact beq_self_eq_true _
 rw[newRange_holds (min_max _ _) (maxN_lt h _) (h j),holds_range];rw[decide_eq_true (minN_le vs _ j hj),decide_eq_true (maxN_ge vs _ j hj)];rfl
def rep(m:Nat):Nat->Nat
 |0=>0
 |n+1=>m+256*rep m n
def g1(b:Nat):Nat:=(b/2&&&85)+(b&&&85)
def g2(b:Nat):Nat:=(b/4&&&51)+(b&&&51)
def g3(b:Nat):Nat:=(b/16+b)&&&15
def S1(n x:Nat):Nat:=(x/2&&&rep 85 n)+(x&&&rep 85 n)
def S2(n x:Nat):Nat:=(x/4&&&rep 51 n)+(x&&&rep 51 n)
def S3(n x:Nat):Nat:=(x/16+x)&&&rep 15 n
def dig:Nat->Nat->Nat
 |0,_=>0
 |n+1,x=>Lib.popAux 8 (x%256)+256*dig n (x/256)
theorem rep_succ(m n:Nat):rep m (n+1)=m+256*rep m n:=rfl
theorem and_split(x m q:Nat)(hm:m<256):x&&&(m+256*q)=(x%256&&&m)+256*(x/256&&&q):=by
 have h1:(x&&&(m+256*q))%2^8=(x%2^8&&&(m+256*q)%2^8):=Nat.and_mod_two_pow;have h2:(x&&&(m+256*q))/2^8=(x/2^8&&&(m+256*q)/2^8):=Nat.and_div_two_pow;have e1:(m+256*q)%2^8=m:=by omega
 have e2:(m+256*q)/2^8=q:=by omega
 rw[e1]at h1;rw[e2]at h2;have e3:(2:Nat)^8=256:=by decide
 rw[e3]at h1 h2;rw[<-h1,<-h2];omega
theorem and_small(x k m:Nat)(hm:m<2^k):x&&&m=x%2^k&&&m:=by
 have h1:(x&&&m)%2^k=(x%2^k&&&m%2^k):=Nat.and_mod_two_pow;rw[Nat.mod_eq_of_lt hm,Nat.mod_eq_of_lt (Nat.lt_of_le_of_lt Nat.and_le_right hm)]at h1;exact h1
theorem S1_step{b y:Nat}(n:Nat)(hb:b<256):S1 (n+1) (b+256*y)=g1 b+256*S1 n y:=by
 unfold S1 g1;rw[rep_succ];rw[and_split _ 85 _ (by decide),and_split _ 85 _ (by decide)];have e1:(b+256*y)/2/256=y/2:=by omega
 have e2:(b+256*y)/256=y:=by omega
 have e3:(b+256*y)%256=b:=by omega
 have e4:(b+256*y)/2%256&&&85=b/2&&&85:=by
  rw[and_small _ 7 85 (by decide),and_small (b/2) 7 85 (by decide)];congr 1;omega
 rw[e1,e2,e3,e4];omega
theorem S2_step{b y:Nat}(n:Nat)(hb:b<256):S2 (n+1) (b+256*y)=g2 b+256*S2 n y:=by
 unfold S2 g2;rw[rep_succ];rw[and_split _ 51 _ (by decide),and_split _ 51 _ (by decide)];have e1:(b+256*y)/4/256=y/4:=by omega
 have e2:(b+256*y)/256=y:=by omega
 have e3:(b+256*y)%256=b:=by omega
 have e4:(b+256*y)/4%256&&&51=b/4&&&51:=by
  rw[and_small _ 6 51 (by decide),and_small (b/4) 6 51 (by decide)];congr 1;omega
 rw[e1,e2,e3,e4];omega
theorem S3_step{b y:Nat}(n:Nat)(hb:b<=68)(hy:y%16<=4):S3 (n+1) (b+256*y)=g3 b+256*S3 n y:=by
 unfold S3 g3;rw[rep_succ];rw[and_split _ 15 _ (by decide)];have e1:((b+256*y)/16+(b+256*y))/256=y/16+y:=by omega
 have e4:((b+256*y)/16+(b+256*y))%256&&&15=(b/16+b)&&&15:=by
  rw[and_small _ 4 15 (by decide),and_small (b/16+b) 4 15 (by decide)];congr 1;omega
 rw[e1,e4]
theorem g_all:∀b:Fin 256,g1 b.val<256∧g2 (g1 b.val)<=68∧g2 (g1 b.val)%16<=4∧g3 (g2 (g1 b.val))=Lib.popAux 8 b.val:=by decide+kernel
theorem swar:∀n x,x<256^n->S3 n (S2 n (S1 n x))=dig n x∧S2 n (S1 n x)%16<=4
 |0,x,h=>by simp[S1,S2,S3,dig,rep]
 |n+1,x,h=>by
  obtain⟨i1,i2⟩:=swar n (x/256) (by rw[Nat.pow_succ]at h;omega);obtain⟨h1,h2,h3,h4⟩:=g_all ⟨x%256,by omega⟩;simp only at h1 h2 h3 h4;have e:x=x%256+256*(x/256):=by omega
  have e1:S1 (n+1) x=g1 (x%256)+256*S1 n (x/256):=by
   rw[<-S1_step n (by omega),<-e]
  rw[e1,S2_step n h1,S3_step n h2 i2,i1,h4];exact⟨rfl,by omega⟩
theorem pop_byte(n x:Nat):Lib.popAux (n+8) x=Lib.popAux 8 (x%256)+Lib.popAux n (x/256):=by
 show x%2+(x/2%2+(x/2/2%2+(x/2/2/2%2+(x/2/2/2/2%2+(x/2/2/2/2/2%2+(x/2/2/2/2/2/2%2+(x/2/2/2/2/2/2/2%2+Lib.popAux n (x/2/2/2/2/2/2/2/2))))))))=_;have e:x/2/2/2/2/2/2/2/2=x/256:=by omega
 rw[e];simp only[Lib.popAux];omega
theorem pop8_le(x:Nat):Lib.popAux 8 x<=8:=by rw[popAux_eq];exact popN_le _ _
theorem swar_sum{x y:Nat}(hx:x<18446744073709551616)(hy:y=dig 8 x):
 y+y/256<18446744073709551616∧(y+y/256)+(y+y/256)/65536<18446744073709551616∧
 ((y+y/256)+(y+y/256)/65536)+((y+y/256)+(y+y/256)/65536)/4294967296<9223372036854775808∧
 (((y+y/256)+(y+y/256)/65536)+((y+y/256)+(y+y/256)/65536)/4294967296)%128=popN x 64:=by
 have e:popN x 64=Lib.popAux 64 x:=(popAux_eq 64 x).symm
 rw[e,pop_byte 56,pop_byte 48,pop_byte 40,pop_byte 32,pop_byte 24,pop_byte 16,pop_byte 8]
 have e8:x/256/256/256/256/256/256/256=x/256/256/256/256/256/256/256%256:=by omega
 rw[e8]
 clear e8
 simp only[dig]at hy
 have p0:=pop8_le (x%256)
 have p1:=pop8_le (x/256%256)
 have p2:=pop8_le (x/256/256%256)
 have p3:=pop8_le (x/256/256/256%256)
 have p4:=pop8_le (x/256/256/256/256%256)
 have p5:=pop8_le (x/256/256/256/256/256%256)
 have p6:=pop8_le (x/256/256/256/256/256/256%256)
 have p7:=pop8_le (x/256/256/256/256/256/256/256%256)
 generalize Lib.popAux 8 (x%256)=c0 at*
 generalize Lib.popAux 8 (x/256%256)=c1 at*
 generalize Lib.popAux 8 (x/256/256%256)=c2 at*
 generalize Lib.popAux 8 (x/256/256/256%256)=c3 at*
 generalize Lib.popAux 8 (x/256/256/256/256%256)=c4 at*
 generalize Lib.popAux 8 (x/256/256/256/256/256%256)=c5 at*
 generalize Lib.popAux 8 (x/256/256/256/256/256/256%256)=c6 at*
 generalize Lib.popAux 8 (x/256/256/256/256/256/256/256%256)=c7 at*
 clear hx e
 have a1:y/256=c1+256*(c2+256*(c3+256*(c4+256*(c5+256*(c6+256*c7))))):=by omega
 obtain⟨y1,hy1⟩:∃y1,y1=y+y/256:=⟨_,rfl⟩
 rw[<-hy1]
 have b1:y1=(c0+c1)+256*((c1+c2)+256*((c2+c3)+256*((c3+c4)+256*((c4+c5)+256*((c5+c6)+256*((c6+c7)+256*c7)))))):=by omega
 clear hy1 a1 hy
 have a2:y1/65536=(c2+c3)+256*((c3+c4)+256*((c4+c5)+256*((c5+c6)+256*((c6+c7)+256*c7)))):=by omega
 obtain⟨y2,hy2⟩:∃y2,y2=y1+y1/65536:=⟨_,rfl⟩
 rw[<-hy2]
 have b2:y2=(c0+c1+c2+c3)+256*((c1+c2+c3+c4)+256*((c2+c3+c4+c5)+256*((c3+c4+c5+c6)+256*((c4+c5+c6+c7)+256*((c5+c6+c7)+256*((c6+c7)+256*c7)))))):=by omega
 have l1:y1<18446744073709551616:=by omega
 clear hy2 a2 b1
 have a3:y2/4294967296=(c4+c5+c6+c7)+256*((c5+c6+c7)+256*((c6+c7)+256*c7)):=by omega
 refine⟨l1,by omega,by omega,by omega⟩
theorem linI:Lin ordI:=⟨ordI_self,fun a b h=>ordI_zero h,ordI_anti,fun a b c h h'=>ordI_lt.2 (by have:=ordI_lt.1 h;have:=ordI_lt.1 h';omega)⟩
def lexO{α:Type}(ord:α->α->Int):List α->List α->Int
 |[],[]=>0
 |[],_::_=> -1
 |_::_,[]=>1
 |a::r,b::s=>if ord a b=0 then lexO ord r s else ord a b
theorem lexO_lin{α:Type}{ord:α->α->Int}(L:Lin ord):Lin (lexO ord):=by
 refine⟨?_,?_,?_,?_⟩
 ·intro l;induction l with
  |nil=>rfl
  |cons a l ih=>rw[lexO,if_pos (L.self a)];exact ih
 ·intro l;induction l with
  |nil=>intro m h;cases m with
   |nil=>rfl
   |cons b m=>simp[lexO]at h
  |cons a l ih=>intro m h;cases m with
   |nil=>simp[lexO]at h
   |cons b m=>
    rw[lexO]at h;by_cases e:ord a b=0
    ·rw[if_pos e]at h;rw[L.zero _ _ e,ih m h]
    rw[if_neg e]at h;exact absurd h e
 ·intro l;induction l with
  |nil=>intro m;cases m<;>rfl
  |cons a l ih=>intro m;cases m with
   |nil=>rfl
   |cons b m=>
    rw[lexO,lexO];have h1:=L.anti a b;by_cases e:ord a b=0
    ·rw[if_pos e,if_pos (by omega)];exact ih m
    rw[if_neg e,if_neg (by omega)];exact h1
 intro l;induction l with
 |nil=>intro m n h1 h2;cases m with
  |nil=>simp[lexO]at h1
  |cons b m=>cases n with
   |nil=>simp[lexO]at h2
   |cons c n=>simp[lexO]
 |cons a l ih=>intro m n h1 h2;cases m with
  |nil=>simp[lexO]at h1
  |cons b m=>cases n with
   |nil=>simp[lexO]at h2
   |cons c n=>
    rw[lexO]at h1 h2⊢;by_cases e1:ord a b=0
    ·rw[if_pos e1]at h1;have:=L.zero _ _ e1;subst this;by_cases e2:ord a c=0
     ·rw[if_pos e2]at h2⊢;exact ih m n h1 h2
     rw[if_neg e2]at h2⊢;exact h2
    rw[if_neg e1]at h1;by_cases e2:ord b c=0
    ·have:=L.zero _ _ e2;subst this;rw[if_neg e1];exact h1
    rw[if_neg e2]at h2;have h3:=L.trans _ _ _ h1 h2;rw[if_neg (by omega)];exact h3
def thenO(x y:Int):Int:=if x=0 then y else x
def ordK(c d:K):Int:=thenO (ordI c.kind d.kind) (thenO (ordI c.a d.a) (ordI c.b d.b))
theorem ordK_lex(c d:K):ordK c d=lexO ordI [c.kind,c.a,c.b] [d.kind,d.a,d.b]:=by
 simp only[ordK,thenO,lexO];split
 ·split
  ·split
   ·assumption
   rfl
  rfl
 rfl
theorem linK:Lin ordK:=by
 have L:=lexO_lin linI;refine⟨fun a=>by rw[ordK_lex];exact L.self _,fun a b h=> ?_,fun a b=>by rw[ordK_lex,ordK_lex];exact L.anti _ _,fun a b c h h'=>by rw[ordK_lex]at*;exact L.trans _ _ _ h h'⟩;rw[ordK_lex]at h;have:=L.zero _ _ h;obtain⟨k,x,y⟩:=a;obtain⟨k',x',y'⟩:=b;simp at this;obtain⟨rfl,h1,h2⟩:=this;have e1:x=x':=by omega
 have e2:y=y':=by omega
 subst e1;subst e2;rfl
abbrev ordR:List K->List K->Int:=lexO ordK
theorem linR:Lin ordR:=lexO_lin linK
theorem popN_one{x:Nat}:∀n,popN x n=1->∃k,k<n∧x.testBit k=true∧∀j,j<n->x.testBit j=true->j=k
 |0,h=>by simp[popN]at h
 |n+1,h=>by
  rw[popN]at h;by_cases e:x.testBit n=true
  ·rw[if_pos e]at h;have h0:∀m,popN x m=0->∀j,j<m->x.testBit j=false:=by
    intro m;induction m with
    |zero=>intro _ j hj;omega
    |succ m ih=>
     intro h j hj;rw[popN]at h;by_cases e:x.testBit m=true
     ·rw[if_pos e]at h;omega
     rw[if_neg e]at h;by_cases hjm:j=m
     ·subst hjm;simpa using e
     exact ih (by omega) j (by omega)
   refine⟨n,by omega,e,fun j hj hb=> ?_⟩;by_cases hjn:j=n
   ·exact hjn
   rw[h0 n (by omega) j (by omega)]at hb;exact absurd hb (by decide)
  rw[if_neg e]at h;obtain⟨k,hk,h1,h2⟩:=popN_one n (by omega);refine⟨k,by omega,h1,fun j hj hb=> ?_⟩;by_cases hjn:j=n
  ·subst hjn;exact absurd hb e
  exact h2 j (by omega) hb
theorem popN_pow{k n:Nat}(h:k<n):popN (2^k) n=1:=by
 have z:∀m,m<=k->popN (2^k) m=0:=by
  intro m;induction m with
  |zero=>intro _;rfl
  |succ m ih=>intro hm;rw[popN,ih (by omega),Nat.testBit_two_pow,if_neg (by simp;omega)]
 induction n with
 |zero=>omega
 |succ n ih=>
  rw[popN,Nat.testBit_two_pow];by_cases e:k=n
  ·subst e;rw[z k (Nat.le_refl _)];simp
  rw[ih (by omega),if_neg (by simpa using e)]
theorem pop_one_iff{x:Nat}(hx:x<18446744073709551616):popN x 64=1↔∃k,k<64∧x=2^k:=by
 constructor
 ·intro h;obtain⟨k,hk,h1,h2⟩:=popN_one 64 h;refine⟨k,hk,Nat.eq_of_testBit_eq fun i=> ?_⟩;rw[Nat.testBit_two_pow];by_cases hi:i<64
  ·cases hb:x.testBit i with
   |true=>have:=h2 i hi hb;simp[this]
   |false=>
    have:k≠i:=fun e=>by subst e;rw[h1]at hb;exact absurd hb (by decide)
    simp[this]
  rw[bit_hi hx (by omega)];have:k≠i:=by omega
  simp[this]
 rintro⟨k,hk,rfl⟩;exact popN_pow hk
def joinK(a b:K):Option K:=
 if a.kind=1∧b.kind=1∧a.a=b.a∧popN (a.b^^^b.b) 64=1 then some (newMask (a.a&&&inv (a.b^^^b.b)) (a.b&&&inv (a.b^^^b.b)))
 else match blockK a,blockK b with
 |some (l1,h1),some (l2,h2)=>if l2<=h1+1∧l1<=h2+1 then some (newRange (min l1 l2) (max h1 h2))else none
 |_,_=>none
theorem flip_and{m x y k:Nat}(hm:m<18446744073709551616)(hx:m|||x=m)(hy:m|||y=m)(hk:k<64)(e:x^^^y=2^k):
 (m&&&inv (2^k))|||(x&&&inv (2^k))=m&&&inv (2^k)∧∀v,v<18446744073709551616->((v&&&(m&&&inv (2^k))=x&&&inv (2^k))↔(v&&&m=x∨v&&&m=y)):=by
 have hp:2^k<18446744073709551616:=Nat.pow_lt_pow_right (a:=2) (by omega) hk;have bi:∀i,(inv (2^k)).testBit i=(decide (i<64)&& !decide (k=i)):=fun i=>by rw[bit_inv hp,Nat.testBit_two_pow]
 have vx:=valid_mask hx;have vy:=valid_mask hy;have be:∀i,(x.testBit i^^y.testBit i)=decide (k=i):=fun i=>by rw[<-Nat.testBit_xor,e,Nat.testBit_two_pow]
 have hbk:m.testBit k=true:=by
  have h1:=be k;simp only[decide_true]at h1
  cases hxk:x.testBit k with
  |true=>exact vx k hxk
  |false=>rw[hxk,Bool.false_xor]at h1;exact vy k h1
 constructor
 ·apply Nat.eq_of_testBit_eq;intro i;simp only[Nat.testBit_or,Nat.testBit_and,bi];have:=vx i
  cases h1:x.testBit i<;>cases h2:m.testBit i<;>simp_all
 intro v hv;rw[mask_bits,mask_bits,mask_bits];simp only[Nat.testBit_and,bi];constructor
 ·intro h;by_cases hvk:v.testBit k=x.testBit k
  ·left;intro i;by_cases hi:k=i
   ·subst hi;rw[hbk,Bool.and_true,hvk]
   have h1:=h i;by_cases h64:i<64
   ·simp[hi,h64]at h1;exact h1
   have b1:=bit_hi hv (i:=i) (by omega);have b2:m.testBit i=false:=bit_hi hm (by omega);have b3:x.testBit i=false:=by
    cases h3:x.testBit i with
    |false=>rfl
    |true=>rw[vx i h3]at b2;exact absurd b2 (by decide)
   simp[b1,b2,b3]
  right;intro i;by_cases hi:k=i
  ·subst hi;have h1:=be k;simp only[decide_true]at h1;rw[hbk,Bool.and_true]
   cases h2:v.testBit k<;>cases h3:x.testBit k<;>cases h4:y.testBit k<;>simp_all
  have h1:=h i;have h5:=be i;rw[decide_eq_false hi]at h5;have h6:x.testBit i=y.testBit i:=by cases h3:x.testBit i<;>cases h4:y.testBit i<;>simp_all
  by_cases h64:i<64
  ·simp[hi,h64]at h1;rw[<-h6];exact h1
  have b1:=bit_hi hv (i:=i) (by omega);have b2:m.testBit i=false:=bit_hi hm (by omega);have b3:y.testBit i=false:=by
   cases h3:y.testBit i with
   |false=>rfl
   |true=>rw[vy i h3]at b2;exact absurd b2 (by decide)
  simp[b1,b2,b3]
 rintro(h|h)<;>intro i
 ·have h1:=h i;by_cases hi:k=i
  ·simp[hi]
  by_cases h64:i<64
  ·simp[hi,h64];exact h1
  simp[h64]
 have h1:=h i;have h5:=be i;by_cases hi:k=i
 ·simp[hi]
 rw[decide_eq_false hi]at h5;have h6:x.testBit i=y.testBit i:=by cases h3:x.testBit i<;>cases h4:y.testBit i<;>simp_all
 by_cases h64:i<64
 ·simp[hi,h64];rw[h6];exact h1
 simp[h64]
theorem joinK_some{a b c:K}(ha:Normal a)(hb:Normal b)(h:joinK a b=some c):Normal c∧∀v,v<18446744073709551616->(holdsK c v=true↔(holdsK a v=true∨holdsK b v=true)):=by
 unfold joinK at h;by_cases h0:a.kind=1∧b.kind=1∧a.a=b.a∧popN (a.b^^^b.b) 64=1
 ·rw[if_pos h0]at h;obtain⟨ak,am,ax⟩:=a;obtain⟨bk,bm,bx⟩:=b;obtain⟨k1,k2,rfl,hp⟩:=h0;simp only at k1 k2 hp h;subst k1;subst k2;have oa:=ha.ok;have ob:=hb.ok;have va:=K.valid_cases ha.valid;have vb:=K.valid_cases hb.valid;have ma:am|||ax=am:=by
   rcases va with h|⟨x,y,h,h'⟩|⟨x,y,h,h'⟩
   ·simp at h
   ·simp at h;obtain⟨rfl,rfl⟩:=h;exact h'
   simp at h
  have mb:am|||bx=am:=by
   rcases vb with h|⟨x,y,h,h'⟩|⟨x,y,h,h'⟩
   ·simp at h
   ·simp at h;obtain⟨rfl,rfl⟩:=h;exact h'
   simp at h
  obtain⟨k,hk,e⟩:=(pop_one_iff (xor_lt oa.2.2 ob.2.2)).1 hp;simp only at e;obtain⟨f1,f2⟩:=flip_and oa.2.1 ma mb hk e;rw[e]at h;injection h with h
  subst h;refine⟨newMask_normal (and_lt oa.2.1) f1,fun v hv=> ?_⟩;rw[newMask_holds f1,holds_mask,holds_mask,holds_mask];simp only[beq_iff_eq];exact f2 v hv
 rw[if_neg h0]at h
 cases e1:blockK a with
 |none=>rw[e1]at h;simp at h
 |some p=>
  cases e2:blockK b with
  |none=>rw[e1,e2]at h;simp at h
  |some q=>
   obtain⟨l1,h1⟩:=p;obtain⟨l2,h2⟩:=q;rw[e1,e2]at h;simp only at h;by_cases hr:l2<=h1+1∧l1<=h2+1
   ·rw[if_pos hr]at h;injection h with h
    subst h;have b1:=block_lt ha.ok ha.valid e1;have b2:=block_lt hb.ok hb.valid e2;have hlh:min l1 l2<=max h1 h2:=by omega
    have hhi:max h1 h2<18446744073709551616:=by omega
    refine⟨newRange_normal hlh hhi,fun v hv=> ?_⟩;rw[newRange_holds hlh hhi hv,holds_range,block_holds ha.ok ha.valid e1 hv,block_holds hb.ok hb.valid e2 hv];simp only[Bool.and_eq_true,decide_eq_true_eq];omega
   rw[if_neg hr]at h;simp at h
theorem joinK_none{a b:K}(h:joinK a b=none):joinK b a=none:=by
 unfold joinK at h⊢;by_cases h0:a.kind=1∧b.kind=1∧a.a=b.a∧popN (a.b^^^b.b) 64=1
 ·rw[if_pos h0]at h;simp at h
 rw[if_neg h0]at h;rw[if_neg (by rintro⟨h1,h2,h3,h4⟩;exact h0 ⟨h2,h1,h3.symm,by rw[Nat.xor_comm];exact h4⟩)]
 cases e1:blockK a with
 |none=>cases e2:blockK b<;>simp
 |some p=>
  cases e2:blockK b with
  |none=>simp
  |some q=>
   obtain⟨l1,h1⟩:=p;obtain⟨l2,h2⟩:=q;rw[e1,e2]at h;simp only at h⊢;by_cases hr:l2<=h1+1∧l1<=h2+1
   ·rw[if_pos hr]at h;simp at h
   rw[if_neg (by rintro⟨x,y⟩;exact hr ⟨y,x⟩)]
end Go.Proofs.YtddemlfepjkgoaaGreat
