import Derived.Test.YtdihdapmphkhpaaGreatRows
import Derived.Test.YtdihdapmphkhpaaGreatQ01
set_option linter.all false
set_option maxRecDepth 200000
set_option maxHeartbeats 16000000
namespace Go.Proofs.YtdihdapmphkhpaaGreat
variable{a am av b f h hi i l lo m v x:Nat}{c:K}
def jo(x:Nat):Nat:=if x=0 then 0 else Nat.log2 x+1
theorem CZ(x:Nat):x<2^jo x:=by
 unfold jo;by_cases h:x=0
 ·rw[if_pos h,h];decide
 rw[if_neg h];exact Nat.lt_log2_self
theorem Iw(h:x≠0):2^(jo x-1)<=x:=by
 unfold jo;rw[if_neg h,Nat.add_sub_cancel];exact Nat.log2_self_le h
theorem Dg(h:x<18446744073709551616):jo x<=64:=by
 unfold jo;by_cases h0:x=0
 ·rw[if_pos h0];omega
 rw[if_neg h0];have:Nat.log2 x<64:=(Nat.log2_lt h0).2 h;omega
theorem xl{n:Nat}(e:l^^^h<2^n)(h1:l<=x)(h2:x<=h)(hi:n<=i):x.testBit i=l.testBit i:=by
 have e1:l/2^n=h/2^n:=by
  have e2:(l^^^h)/2^n=0:=Nat.div_eq_of_lt e;rw[Nat.xor_div_two_pow]at e2;have e6:=nV (l/2^n) (h/2^n);rw[e2,Nat.xor_zero]at e6;exact e6
 have e3:l/2^n<=x/2^n:=Nat.div_le_div_right h1;have e4:x/2^n<=h/2^n:=Nat.div_le_div_right h2;have e5:x/2^n=l/2^n:=by omega
 have b1:(x/2^n).testBit (i-n)=x.testBit (i-n+n):=cY x (i-n);have b2:(l/2^n).testBit (i-n)=l.testBit (i-n+n):=cY l (i-n);rw[e5,b2,Nat.sub_add_cancel hi]at b1;exact b1.symm
theorem Dw(hlh:l<=h)(h0:l^^^h≠0):∃y,l<=y∧y+1<=h∧∀i,i<jo (l^^^h)->y.testBit i≠(y+1).testBit i:=by
 have hlt:=CZ (l^^^h);have hge:=Iw h0;have hn:0<jo (l^^^h):=by unfold jo;rw[if_neg h0];omega
 obtain⟨m,hm⟩:∃m,jo (l^^^h)=m+1:=⟨jo (l^^^h)-1,by omega⟩;rw[hm]at hlt hge⊢;rw[Nat.add_sub_cancel]at hge;have hp:=di m;have e1:(l^^^h)/2^m=1:=by
  apply Nat.div_eq_of_lt_le
  ·omega
  rw[dZ]at hlt;omega
 rw[Nat.xor_div_two_pow]at e1;have e2:h/2^m=l/2^m^^^1:=by rw[<-e1,nV]
 have e3:l/2^m<=h/2^m:=Nat.div_le_div_right hlh;have e4:(h/2^m)/2=(l/2^m)/2:=by rw[e2,Nat.xor_div_two];simp
 have e5:(h/2^m)%2=(l/2^m+1)%2:=by
  have e9:(h/2^m).testBit 0=((l/2^m).testBit 0^^(1:Nat).testBit 0):=by rw[e2,dj]
  rw[cO,cO,cO]at e9;rcases Nat.mod_two_eq_zero_or_one (l/2^m)with g|g<;>rw[g]at e9<;>simp at e9<;>omega
 have e6:∃q,l/2^m=2*q∧h/2^m=2*q+1:=⟨(l/2^m)/2,by omega,by omega⟩;obtain⟨q,e7,e8⟩:=e6;have l1:=Nat.lt_div_mul_add hp (a:=l);have h1:=Nat.div_mul_le_self h (2^m);rw[e7]at l1;rw[e8]at h1;have hl:=iM m;refine⟨2^m*(2*q)+low m,?_,?_,fun i hi=> ?_⟩
 ·rw[cV (2^m)];omega
 ·rw[cT,dd]at h1;rw[cV (2^m)];omega
 have y1:2^m*(2*q)+low m+1=2^m*(2*q+1)+0:=by rw[Nat.mul_add,bR];omega
 rw[y1,dg _ (Cy m),dg _ hp];by_cases hi2:i<m
 ·rw[if_pos hi2,if_pos hi2,lD];simp[hi2]
 have:i=m:=by omega
 subst this;rw[if_neg hi2,if_neg hi2,du,cO,cO];have a1:2*q%2=0:=by omega
 have a2:(2*q+1)%2=1:=by omega
 simp
def pI(c:K):Nat:=if c.kind=1 then c.a else if c.kind=2 then inv (low (jo (c.a^^^c.b)))else 0
def pL(c:K):Nat:=if c.kind=1 then c.b else if c.kind=2 then c.a&&&inv (low (jo (c.a^^^c.b)))else 0
def fU(a b:K):Bool:=
 if b.kind=1 then(pI a&&&b.a==b.a)&&(pL a&&&b.a==b.b)else if b.kind=2 then decide (b.a<=jd a)&&decide (gD a<=b.b)else true
theorem rU(h:x<18446744073709551616)(hi:x.testBit i=true):i<64:=by
 rcases de i 64 with h1|h1
 ·exact h1
 rw[lv h h1]at hi;exact absurd hi (by decide)
theorem CG(hlh:l<=h)(hh:h<18446744073709551616)(hm:m<18446744073709551616):
 jY ⟨2,l,h⟩ ⟨1,m,v⟩↔(inv (low (jo (l^^^h)))&&&m=m∧l&&&inv (low (jo (l^^^h)))&&&m=v):=by
 have hx:=mj (show l<18446744073709551616 by omega) hh;have hn:=Dg hx;have hlt:=CZ (l^^^h);have bi:∀i,(inv (low (jo (l^^^h)))).testBit i=(decide (i<64)&& !decide (i<jo (l^^^h))):=fun i=>by
  rw[lI (by have:=lU hn;omega),lD]
 have key:(inv (low (jo (l^^^h)))&&&m=m)->l&&&inv (low (jo (l^^^h)))&&&m=l&&&m:=fun e=>by rw[Nat.and_assoc,e]
 constructor
 ·intro hw;have w:∀x,l<=x->x<=h->x&&&m=v:=fun x h1 h2=>by
   have:=hw x (by omega) (by rw[fN];simp[h1,h2]);rwa [fF,beq_iff_eq]at this
  have e:inv (low (jo (l^^^h)))&&&m=m:=by
   rw[lZ];intro i hi;rw[bi];by_cases h1:i<jo (l^^^h)
   ·exfalso;have h0:l^^^h≠0:=fun h0=>by rw[h0]at h1;exact absurd h1 (by unfold jo;simp)
    obtain⟨y,y1,y2,y3⟩:=Dw hlh h0;have b1:=gx.1 (w y y1 (by omega)) i;have b2:=gx.1 (w (y+1) (by omega) y2) i;rw[hi,cF]at b1 b2;exact y3 i h1 (b1.trans b2.symm)
   simp[h1,rU hm hi]
  exact⟨e,by rw[key e];exact w l (ae _) hlh⟩
 rintro⟨e,e2⟩x hxl hx2;rw[fN]at hx2;simp only[aL,decide_eq_true_eq]at hx2;rw[fF,beq_iff_eq,<-e2,key e];apply bu;intro i;rw[bI,bI];by_cases hi:m.testBit i=true
 ·have:=(lZ _ _).1 e i hi;rw[bi]at this;simp at this;rw[xl hlt hx2.1 hx2.2 this.2]
 rw[Bool.not_eq_true]at hi;rw[hi,cd,cd]
theorem Hn(h:x<18446744073709551616)(hi:i<64):x^^^2^i<18446744073709551616:=
 mj h (cU (a:=2) (by omega) hi)
theorem sJ(ha:am<18446744073709551616)(hm:m<18446744073709551616)(h:am|||av=am):
 jY ⟨1,am,av⟩ ⟨1,m,v⟩↔(am&&&m=m∧av&&&m=v):=by
 have hb:=kJ h;have hav:av<18446744073709551616:=by have:= @Nat.right_le_or am av;omega
 have in0:=(oU ha h).1;constructor
 ·intro hw;have e0:=hw av hav in0;rw[fF,beq_iff_eq]at e0;refine⟨?_,e0⟩;rw[lZ];intro i hi
  cases hc:am.testBit i with
  |true=>rfl
  |false=>
   exfalso;have i64:=rU hm hi;have e1:=hw (av^^^2^i) (Hn hav i64) (by
    rw[fF,beq_iff_eq,gx]
    intro j
    rw[fF,beq_iff_eq,gx]at in0
    rw[dj,bW]
    by_cases hj:i=j
    ·subst hj;rw[hc,cd,<-in0 i,hc,cd]
    have:=in0 j
    rw[decide_eq_false hj,Bool.xor_false];exact this)
   rw[fF,beq_iff_eq]at e1;have b0:=gx.1 e0 i;have b1:=gx.1 e1 i;rw[hi,cF]at b0 b1;rw[dj,bW,<-b0]at b1;simp at b1
 rintro⟨e1,e2⟩x hx h1;rw[fF,beq_iff_eq]at h1;rw[fF,beq_iff_eq,<-e2,<-h1,Nat.and_assoc,e1]
theorem yp{a:K}(ha:fZ a):jY a ⟨2,l,h⟩↔(l<=jd a∧gD a<=h):=by
 obtain⟨h1,h2,h3,h4,h5⟩:=sY ha;constructor
 ·intro hw;have e1:=hw _ h1 h3;have e2:=hw _ h2 h4;rw[fN]at e1 e2;simp at e1 e2;exact⟨e1.1,e2.2⟩
 rintro⟨e1,e2⟩v hv h6;have:=h5 v hv h6;rw[fN];simp;omega
theorem pM {a b : K} (ha : fZ a) (hb : fZ b) : fU a b = true ↔ jY a b := by
  rcases hb with rfl | ⟨m, v, rfl, h0, hm, h⟩ | ⟨l, h, rfl, hlh, hh, h2⟩
  · simp only [fU]; simp; intro v hv h1; rfl
  · have e : fU a ⟨1, m, v⟩ = ((pI a &&& m == m) && (pL a &&& m == v)) := rfl
    rw [e, aL, beq_iff_eq, beq_iff_eq]
    rcases ha with rfl | ⟨am, av, rfl, h0', ham, h'⟩ | ⟨l, h', rfl, hlh, hh, h2⟩
    · have e1 : jY ⟨0, 0, 0⟩ ⟨1, m, v⟩ ↔ jY ⟨1, 0, 0⟩ ⟨1, m, v⟩ := by
        unfold jY
        constructor
        · intro hw x hx _; exact hw x hx rfl
        · intro hw x hx _; exact hw x hx (by rw [fF, Nat.and_zero]; rfl)
      rw [e1, sJ (by omega) hm rfl]; rfl
    · rw [sJ ham hm h']; rfl
    · rw [CG hlh hh hm]; rfl
  · have e : fU a ⟨2, l, h⟩ = (decide (l <= jd a) && decide (gD a <= h)) := rfl
    rw [e, yp ha]; simp
theorem I1(ha:a<18446744073709551616)(h:a|||b=a)(hw:jY ⟨2,b,b|||inv a⟩ ⟨1,a,b⟩):iA (inv a)=true:=by
 have hb:b<18446744073709551616:=by have:= @Nat.right_le_or a b;omega
 have hle:b<=b|||inv a:=Nat.left_le_or;have hx:b^^^(b|||inv a)=inv a:=by
  apply bu;intro i;rw[dj,cN];have:=(jH _ _).1 (ss ha h) i;revert this
  cases b.testBit i<;>cases(inv a).testBit i<;>simp
 have hw2:=(CG hle (zu hb (jX a)) ha).1 hw;rw[hx]at hw2;have hn:=Dg (jX a);refine(lP (jX a)).2 ⟨jo (inv a),hn,?_⟩;apply bu;intro i;rw[lD];by_cases hi:i<jo (inv a)
 ·rw[decide_eq_true hi,lI ha]
  cases hc:a.testBit i with
  |false=>simp;omega
  |true=>
   exfalso;have:=(lZ _ _).1 hw2.1 i hc;rw[lI (by have:=lU hn;omega),lD]at this;simp[hi]at this
 rw[decide_eq_false hi];exact Nat.testBit_lt_two_pow (an (CZ _) (dT (by omega) (by omega)))
def fB(c:K):Option (Nat×Nat):=if c.kind=0 then some (0,18446744073709551615)else if c.kind=2 then some (c.a,c.b)else if iA (inv c.a)then some (c.b,c.b+inv c.a)else none
theorem pq(ho:c.ok)(hv:eI c=true)(h:fB c=some (lo,hi))(hb:v<18446744073709551616):eX c v=true↔(lo<=v∧v<=hi):=by
 rcases K.gp hv with rfl|⟨a,b,rfl,h1⟩|⟨a,b,rfl,h1⟩
 ·simp[fB]at h;obtain⟨rfl,rfl⟩:=h;simp[xz];omega
 ·have h2:(if iA (inv a)then some (b,b+inv a)else none)=some (lo,hi):=h;by_cases h3:iA (inv a)=true
  ·rw[if_pos h3]at h2;simp at h2;obtain⟨rfl,rfl⟩:=h2;obtain⟨e1,e2,e3⟩:=n9 ho.2.1 h1 h3;rw[<-kL h1,<-e3,lY (by omega) e2 hb,fN];simp
  rw[if_neg h3]at h2;exact absurd h2 (by simp)
 simp[fB]at h;obtain⟨rfl,rfl⟩:=h;rw[fN];simp
theorem me(ho:c.ok)(hv:eI c=true)(h:fB c=some (lo,hi)):lo<=hi∧hi<18446744073709551616:=by
 rcases K.gp hv with rfl|⟨a,b,rfl,h1⟩|⟨a,b,rfl,h1⟩
 ·simp[fB]at h;omega
 ·have h2:(if iA (inv a)then some (b,b+inv a)else none)=some (lo,hi):=h;by_cases h3:iA (inv a)=true
  ·rw[if_pos h3]at h2;simp at h2;obtain⟨rfl,rfl⟩:=h2;obtain⟨e1,e2,e3⟩:=n9 ho.2.1 h1 h3;exact⟨by omega,e2⟩
  rw[if_neg h3]at h2;exact absurd h2 (by simp)
 simp[fB]at h;obtain⟨rfl,rfl⟩:=h;exact⟨h1,ho.2.2⟩
def nP(c:K)(f v:Nat)(s:Bool):Prop:=
 if s then f<=v∧v<18446744073709551616∧eX c v=false∧∀x,f<=x->x<v->eX c x=true
 else∀x,f<=x->x<18446744073709551616->eX c x=true
theorem BJ{d:K}{s:Bool}(ho:c.ok)(hv:eI c=true)(h:fB c=some (lo,hi))(h1:nP d lo v s):((!s||decide (hi<v))=true↔jY c d):=by
 have hl:=me ho hv h;have hb:=fun{x}(hx:x<18446744073709551616)=>pq ho hv h hx
 cases s with
 |false=>
  have h2:∀x,lo<=x->x<18446744073709551616->eX d x=true:=h1;simp;intro x hx h3;exact h2 x ((hb hx).1 h3).1 hx
 |true=>
  obtain⟨h2,h3,h4,h5⟩:lo<=v∧v<18446744073709551616∧eX d v=false∧∀x,lo<=x->x<v->eX d x=true:=h1;simp;constructor
  ·intro h6 x hx h7;have:=(hb hx).1 h7;exact h5 x this.1 (by omega)
  intro hw;rcases de hi v with h6|h6
  ·exact h6
  have:=hw v h3 ((hb h3).2 ⟨h2,h6⟩);rw[h4]at this;exact absurd this (by decide)
theorem Ej(hf:f<18446744073709551616)(hh:h<18446744073709551616)(h1:eX ⟨2,l,h⟩ f=true):nP ⟨2,l,h⟩ f (if h=18446744073709551615 then 0 else h+1) (decide (h≠18446744073709551615)):=by
 rw[fN]at h1;simp at h1;by_cases e:h=18446744073709551615
 ·rw[if_pos e];simp only[nP,e];simp;intro x hx hx2;rw[fN];simp;omega
 rw[if_neg e,decide_eq_true (show h≠18446744073709551615 from e)];refine⟨by omega,by omega,?_,fun x hx hx2=> ?_⟩
 ·rw[fN];simp
 rw[fN];simp;omega
theorem EU{k:Nat}(hf:f<18446744073709551616)(ha:a<18446744073709551616)(hk:k<64)(h1:eX ⟨1,a,b⟩ f=true)(h2:a.testBit k=true)(h3:∀j,j<k->a.testBit j=false):
 nP ⟨1,a,b⟩ f (if f|||low k=18446744073709551615 then 0 else(f|||low k)+1) (decide (f|||low k≠18446744073709551615)):=by
 have h1':=h1;rw[fF,beq_iff_eq]at h1;have hlk:=lU (show k<=64 by omega);have hfl:f|||low k<18446744073709551616:=zu hf (by omega);have hq:f|||low k=2^k*(f/2^k)+low k:=by
  apply bu;intro i;rw[cN,dg _ (Cy k),lD,cY];by_cases h:i<k
  ·simp[h]
  simp[h,Nat.sub_add_cancel (show k<=i by omega)]
 have inside:∀x,f<=x->x<=f|||low k->eX ⟨1,a,b⟩ x=true:=by
  intro x hx1 hx2;have hxor:f^^^(f|||low k)<2^k:=by
   apply Nat.lt_pow_two_of_testBit;intro i hi;rw[dj,cN,lD];simp[show¬i<k by omega]
  rw[fF,beq_iff_eq,<-h1];apply bu;intro i;rw[bI,bI];by_cases hi:i<k
  ·rw[h3 i hi,cd,cd]
  rw[xl hxor hx1 hx2 (by omega)]
 by_cases e:f|||low k=18446744073709551615
 ·rw[if_pos e];simp only[nP,e];simp;intro x hx hx2;exact inside x hx (by omega)
 rw[if_neg e];have hle:f<=f|||low k:=Nat.left_le_or;rw[decide_eq_true (show f|||low k≠18446744073709551615 from e)];refine⟨by omega,by omega,?_,fun x hx hx2=>inside x hx (by omega)⟩;rw[fF]
 cases hc:((f|||low k)+1&&&a==b)with
 |false=>rfl
 |true=>
  exfalso;rw[beq_iff_eq]at hc;have b1:=gx.1 hc k;have b2:=gx.1 h1 k;rw[h2,cF]at b1 b2;have e2:(f|||low k)+1=2^k*(f/2^k+1)+0:=by
   have:=iM k;rw[hq,Nat.mul_add,bR];omega
  rw[e2,dg _ (di k),if_neg (by omega),du,<-b2]at b1;have e3:f.testBit k=(f/2^k).testBit 0:=by rw[cY,aC]
  rw[e3,cO,cO]at b1;simp at b1;omega
theorem FQ(h1:eX ⟨1,0,b⟩ f=true):nP ⟨1,0,b⟩ f 0 false:=by
 intro x hx hx2;rw[fF,Nat.and_zero]at h1⊢;exact h1
theorem Hf:nP ⟨0,0,0⟩ f 0 false:=fun x _ _=>rfl
theorem ES(hf:f<18446744073709551616)(h:eX c f=false):nP c f f true:=⟨ae _,hf,h,fun x h1 h2=>by omega⟩
theorem ya(ha:a<18446744073709551616)(h:∀j,j<64->a.testBit j=false):a=0:=by
 apply bu;intro i;rw[Nat.zero_testBit];rcases de i 64 with h1|h1
 ·exact h i h1
 exact lv ha h1
theorem uD(ha:am<18446744073709551616)(hm:m<18446744073709551616)(h:am|||av=am)(h':m|||v=m):
 jY ⟨1,am,av⟩ ⟨1,m,v⟩↔∀k,k<64->m.testBit k=true->am.testBit k=true∧av.testBit k=v.testBit k:=by
 rw[sJ ha hm h];constructor
 ·rintro⟨e1,e2⟩k hk hb;refine⟨(lZ _ _).1 e1 k hb,?_⟩;have:=gx.1 e2 k;rw[hb,cF]at this;exact this
 intro e;refine⟨(lZ _ _).2 fun i hi=>(e i (rU hm hi) hi).1,gx.2 fun i=> ?_⟩
 cases hc:m.testBit i with
 |true=>rw[cF];exact(e i (rU hm hc) hc).2
 |false=>
  rw[cd]
  cases hd:v.testBit i with
  |false=>rfl
  |true=>rw[kJ h' i hd]at hc;exact absurd hc (by decide)
theorem FA:jY ⟨1,am,av⟩ ⟨0,0,0⟩:=fun v _ _=>rfl
theorem wN(ha:am<18446744073709551616)(hv:am|||av=am):jY ⟨1,am,av⟩ ⟨2,l,h⟩↔(l<=av∧av|||inv am<=h):=by
 obtain⟨h3,h4,h5⟩:=oU ha hv;have hav:av<18446744073709551616:=by have:= @Nat.right_le_or am av;omega
 constructor
 ·intro hw;have e1:=hw _ hav h3;have e2:=hw _ (zu hav (jX am)) h4;rw[fN]at e1 e2;simp at e1 e2;exact⟨e1.1,e2.2⟩
 rintro⟨e1,e2⟩v hv h6;have:=h5 v hv h6;rw[fN];simp;omega
theorem CS(x k:Nat):(x&&&2^k=0)↔x.testBit k=false:=by
 rw[jH];constructor
 ·intro h;have:=h k;rw[Nat.testBit_two_pow_self]at this;simpa using this
 rintro h i⟨h1,h2⟩;rw[bW]at h2;have:k=i:=by simpa using h2
 subst this;rw[h]at h1;exact absurd h1 (by decide)
theorem uk(x y k:Nat):(x&&&2^k=y&&&2^k)↔x.testBit k=y.testBit k:=by
 constructor
 ·intro h;have e:(x&&&2^k).testBit k=(y&&&2^k).testBit k:=by rw[h]
  rw[bI,bI,Nat.testBit_two_pow_self,cF,cF]at e;exact e
 intro h;apply bu;intro i;rw[bI,bI,bW];by_cases hi:k=i
 ·subst hi;rw[h]
 rw[decide_eq_false hi,cd,cd]
end Go.Proofs.YtdihdapmphkhpaaGreat
namespace Go.Proofs.YtdihdapmphkhpaaGreat
open Go.RowKit
variable{R g:Nat}{w w' w1:World}{x y z:Value}
abbrev fC(c:K):Value:=.agg #[.int .i64 c.kind,.int .u64 (c.a:Int),.int .u64 (c.b:Int)]
theorem u64_and(a b:Nat)(ha:a<18446744073709551616)(hb:b<18446744073709551616):bits .and .u64 (a:Int) (b:Int)=((a&&&b:Nat):Int):=bits_and_u64_nat a b ha hb
theorem u64_or(a b:Nat)(ha:a<18446744073709551616)(hb:b<18446744073709551616):bits .or .u64 (a:Int) (b:Int)=((a|||b:Nat):Int):=bits_or_u64_nat a b ha hb
theorem pg(a b:Nat):((a:Int)==(b:Int))=(a==b):=by rw[cB,beq_iff_eq,beq_iff_eq];omega
theorem pT(a:Nat):((a:Int)==0)=(a==0):=by rw[cB,beq_iff_eq,beq_iff_eq];omega
theorem kF(k:Nat)(w:World)(hk:k<=64):
 Calls Tryz.prog 84 #[.int .i64 (k:Int)] w fun e w'=>e=.returned (.int .u64 (low k:Nat))∧w'=w:=by
 by_cases h64:k=64
 ·subst h64;go_enter Tryz.func84,Tryz.ntmps84;go_wp2;go_ret;exact⟨rfl,rfl⟩
 have hne:¬(k:Int)=64:=by omega
 have HL:Hid (2^k<18446744073709551616):=cU (a:=2) (by omega) (show k<64 by omega);go_enter Tryz.func84,Tryz.ntmps84;go_wp2;go_ret;refine⟨fL ?_,rfl⟩;have hlt:=HL.out;have hp:=di k;have e1:((2:Int)^k)=((2^k:Nat):Int):=by simp
 unfold low;simp only[e1,aS];omega
theorem Aq(c:K)(w:World)(ho:c.ok):
 Calls Tryz.prog 41 #[fC c] w fun e w'=>e=.returned (.bool (eI c))∧Below w.heap.size w w':=by
 obtain⟨kind,a,b⟩:=c;obtain⟨⟨k0,k1⟩,ha,hb⟩:=ho;simp only at k0 k1 ha hb;simp only[fC];have B:Below w.heap.size w (w.alloc (.cells #[.int .i64 kind,.int .u64 (a:Int),.int .u64 (b:Int)] 84)):=(af _ _).alloc (ae _) _;obtain⟨V,hV⟩:∃V,eI ⟨kind,a,b⟩=V:=⟨_,rfl⟩;have HV:Hid (eI ⟨kind,a,b⟩=V):=hV;rw[hV];clear hV;by_cases h0:kind=0
 ·subst h0;by_cases ha0:a=0
  ·subst ha0;by_cases hb0:b=0
   ·subst hb0;go_enter Tryz.func41,Tryz.ntmps41;go_wp2;go_ret;exact⟨by rw[<-HV.out];rfl,B⟩
   have hb1:¬(b:Int)=0:=by omega
   go_enter Tryz.func41,Tryz.ntmps41;go_wp2;go_ret;exact⟨by rw[<-HV.out,pT];simp[eI],B⟩
  have ha1:¬(a:Int)=0:=by omega
  go_enter Tryz.func41,Tryz.ntmps41;go_wp2;go_ret;exact⟨by rw[<-HV.out];simp[eI,ha0],B⟩
 by_cases h1:kind=1
 ·subst h1;have HB:Hid (bits .or .u64 (a:Int) (b:Int)=((a|||b:Nat):Int)):=u64_or a b ha hb;go_enter Tryz.func41,Tryz.ntmps41;go_wp2;go_ret;refine⟨?_,B⟩;rw[<-HV.out,HB.out,pg];simp[eI]
 by_cases h2:kind=2
 ·subst h2;by_cases hab:a<=b
  ·have hab':(a:Int)<=(b:Int):=by omega
   go_enter Tryz.func41,Tryz.ntmps41;go_wp2;go_ret;exact⟨by rw[<-HV.out];simp[eI,hab],B⟩
  have hab':¬(a:Int)<=(b:Int):=by omega
  go_enter Tryz.func41,Tryz.ntmps41;go_wp2;go_ret;exact⟨by rw[<-HV.out];simp[eI,hab],B⟩
 go_enter Tryz.func41,Tryz.ntmps41;go_wp2;go_ret;exact⟨by rw[<-HV.out];simp[eI,h0,h1,h2],B⟩
theorem tD(c:K)(v:Nat)(w:World)(ho:c.ok)(hv:v<18446744073709551616):
 Calls Tryz.prog 80 #[fC c,.int .u64 (v:Int)] w fun e w'=>e=.returned (.bool (eX c v))∧Below w.heap.size w w':=by
 obtain⟨kind,a,b⟩:=c;obtain⟨⟨k0,k1⟩,ha,hb⟩:=ho;simp only at k0 k1 ha hb;simp only[fC];have B:Below w.heap.size w (w.alloc (.cells #[.int .i64 kind,.int .u64 (a:Int),.int .u64 (b:Int)] 84)):=(af _ _).alloc (ae _) _;obtain⟨V,hV⟩:∃V,eX ⟨kind,a,b⟩ v=V:=⟨_,rfl⟩;have HV:Hid (eX ⟨kind,a,b⟩ v=V):=hV;rw[hV];clear hV;by_cases h1:kind=1
 ·subst h1;have HB:Hid (bits .and .u64 (v:Int) (a:Int)=((v&&&a:Nat):Int)):=u64_and v a hv ha;go_enter Tryz.func80,Tryz.ntmps80;go_wp2;go_ret;refine⟨?_,B⟩;rw[<-HV.out,HB.out,pg];simp[eX]
 by_cases h2:kind=2
 ·subst h2;by_cases hab:a<=v
  ·have hab':(a:Int)<=(v:Int):=by omega
   by_cases hvb:v<=b
   ·have hvb':(v:Int)<=(b:Int):=by omega
    go_enter Tryz.func80,Tryz.ntmps80;go_wp2;go_ret;exact⟨by rw[<-HV.out];simp[eX,hab,hvb],B⟩
   have hvb':¬(v:Int)<=(b:Int):=by omega
   go_enter Tryz.func80,Tryz.ntmps80;go_wp2;go_ret;exact⟨by rw[<-HV.out];simp[eX,hab,hvb],B⟩
  have hab':¬(a:Int)<=(v:Int):=by omega
  go_enter Tryz.func80,Tryz.ntmps80;go_wp2;go_ret;exact⟨by rw[<-HV.out];simp[eX,hab],B⟩
 go_enter Tryz.func80,Tryz.ntmps80;go_wp2;go_ret;exact⟨by rw[<-HV.out];simp[eX,h1,h2],B⟩
def mS(c:K):Value:=match fB c with|some (lo,hi)=>.tuple #[.int .u64 (lo:Int),.int .u64 (hi:Int),.bool true]|none=>.tuple #[.int .u64 0,.int .u64 0,.bool false]
structure gu(w:World)(g:Nat)(x y z:Value):Prop where
 lt:g<w.heap.size
 c0:w.cell? ⟨g,0,none⟩=some x
 c1:w.cell? ⟨g,1,none⟩=some y
 c2:w.cell? ⟨g,2,none⟩=some z
 f0:w.frozen? ⟨g,0,none⟩=false
 f1:w.frozen? ⟨g,1,none⟩=false
 f2:w.frozen? ⟨g,2,none⟩=false
theorem gu.ey(h:gu w g x y z)(hb:Below w.heap.size w w1):gu w1 g x y z:=
 ⟨an h.lt hb.size,(hb.cell (p:=⟨g,0,none⟩) h.lt).trans h.c0,(hb.cell (p:=⟨g,1,none⟩) h.lt).trans h.c1,(hb.cell (p:=⟨g,2,none⟩) h.lt).trans h.c2,
  (hb.frozen (p:=⟨g,0,none⟩) h.lt).trans h.f0,(hb.frozen (p:=⟨g,1,none⟩) h.lt).trans h.f1,(hb.frozen (p:=⟨g,2,none⟩) h.lt).trans h.f2⟩
theorem gu.new(w:World)(t:TypeId)(x y z:Value):gu (w.alloc (.cells #[x,y,z] t)) w.heap.size x y z:=
 ⟨by simp,by simp,by simp,by simp,by simp,by simp,by simp⟩
theorem gu.drew{w:World}{g:Nat}{x y z:Value}(h:gu w g x y z):gu w.drew g x y z:=h.ey (af _ _).drew
theorem gu.alloc{w:World}{g:Nat}{x y z:Value}(h:gu w g x y z)(o:Obj):gu (w.alloc o) g x y z:=h.ey ((af _ _).alloc (ae _) o)
theorem qu{L:Nat}(h:L<=18446744073709551615):IntKind.u64.wrap (18446744073709551615-(L:Int))=18446744073709551615-(L:Int):=by
 rw[aS];omega
theorem xW{a b:Nat}(h:a+b<18446744073709551616):IntKind.u64.wrap ((a:Int)+(b:Int))=((a+b:Nat):Int):=by
 rw[aS];omega
theorem yA(a b:Nat)(w:World)(ha:a<18446744073709551616)(hb:b<18446744073709551616)(hv:a|||b=a):
 Calls Tryz.prog 83 #[fC ⟨1,a,b⟩] w fun e w'=>e=.returned (mS ⟨1,a,b⟩)∧Below w.heap.size w w':=by
 simp only[fC]
 have HY:Hid (iA (inv a)=true->b+inv a<18446744073709551616∧mS ⟨1,a,b⟩=.tuple #[.int .u64 (b:Int),.int .u64 ((b+inv a:Nat):Int),.bool true]):=fun h=>⟨(n9 ha hv h).2.1,by simp[mS,fB,h]⟩
 have HN:Hid (iA (inv a)=false->mS ⟨1,a,b⟩=.tuple #[.int .u64 0,.int .u64 0,.bool false]):=fun h=>by simp[mS,fB,h]
 have HI:Hid (iA (inv a)=true↔∃k,k<=64∧inv a=low k):=lP (jX a)
 generalize mS ⟨1,a,b⟩=V at*
 clear hv
 go_enter Tryz.func83,Tryz.ntmps83
 go_wp2_with fail
 have X:=gu.new w 84 (.int .i64 1) (.int .u64 (a:Int)) (.int .u64 (b:Int))
 have B0:Below w.heap.size w (w.alloc (.cells #[.int .i64 1,.int .u64 (a:Int),.int .u64 (b:Int)] 84)):=(af _ _).alloc (ae _) _
 go_loopw [5](fun i wr=>∃k:Nat,k<=65∧i=.int .i64 k∧Hid (∀j,j<k->inv a≠low j)∧gu wr w.heap.size (.int .i64 1) (.int .u64 (a:Int)) (.int .u64 (b:Int))∧Below w.heap.size w wr)(fun i _=>65-(intOf i).toNat)
 case atStart=>exact⟨0,by omega,rfl,fun j hj=>by omega,X,B0⟩
 case round=>
  clear X B0
  obtain⟨k,hk,rfl,HJ,X,B⟩:=hrel
  by_cases hlt:k<=64
  ·have hl:=lU hlt
   have HL:Hid (∀w,Calls Tryz.prog 84 #[.int .i64 (k:Int)] w fun e w'=>e=.returned (.int .u64 (low k:Nat))∧w'=w):=fun w=>kF k w hlt
   obtain⟨_,x0,x1,x2,_,_,_⟩:=X.drew
   obtain⟨_,z0,z1,z2,_,_,_⟩:=X.drew.drew
   by_cases e:inv a=low k
   ·have e1:((a:Int)==18446744073709551615-((low k:Nat):Int))=true:=by unfold inv at e;rw[beq_iff_eq];omega
    obtain⟨y1,y2⟩:=HY.out (HI.out.2 ⟨k,hlt,e⟩)
    rw[e]at y1 y2
    have HV:Hid _:=y2
    clear y2 HY HN HI HJ e
    have hw:=qu hl
    have hw2:=xW y1
    generalize low k=L at*
    go_wp2_with fail
    go_region_held3(fun w'=>w'.cell? ⟨w.heap.size,1,none⟩=some (.int .u64 (a:Int)))
     (first|assumption|(simp[*];done))
     ((go_at_call 84;refine(HL.out _).mono ?_;rintro e w1⟨rfl,rfl⟩))
    go_wp2_with fail
    go_region_held3(fun w'=>w'.cell? ⟨w.heap.size,2,none⟩=some (.int .u64 (b:Int)))
     (first|assumption|(simp[*];done))
     ((go_at_call 84;refine(HL.out _).mono ?_;rintro e w1⟨rfl,rfl⟩))
    go_wp2
    rw[HV.out]
    exact bodyPost_ret (v:=.tuple #[.int .u64 (b:Int),.int .u64 ((b+L:Nat):Int),.bool true]) (by simp[results,Tryz.results83,go_sem]) rfl ⟨rfl,B.drew.drew⟩
   ·have e1:((a:Int)==18446744073709551615-((low k:Nat):Int))=false:=by unfold inv at e;rw[beq_eq_false_iff_ne];omega
    have HJ':Hid (∀j,j<k+1->inv a≠low j):=fun j hj=>by
     by_cases hjk:j=k
     ·subst hjk;exact e
     ·exact HJ.out j (by omega)
    clear HY HN HI HJ e
    have hw:=qu hl
    generalize low k=L at*
    go_wp2_with fail
    go_region_held3(fun w'=>w'.cell? ⟨w.heap.size,1,none⟩=some (.int .u64 (a:Int)))
     (first|assumption|(simp[*];done))
     ((go_at_call 84;refine(HL.out _).mono ?_;rintro e w1⟨rfl,rfl⟩))
    go_wp2
    go_roundw
    case rel=>exact⟨k+1,by omega,by go_num,HJ',X.drew,B.drew⟩
    case measure=>simp[intOf];omega
  ·have hk':k=65:=by omega
   subst hk'
   have HV:Hid (V=.tuple #[.int .u64 0,.int .u64 0,.bool false]):=HN.out (by
    cases hc:iA (inv a)with
    |false=>rfl
    |true=>
     obtain⟨k,h1,h2⟩:=HI.out.1 hc
     exact absurd h2 (HJ.out k (by omega)))
   go_wp2
   rw[HV.out]
   exact bodyPost_ret (v:=.tuple #[.int .u64 0,.int .u64 0,.bool false]) (by simp[results,Tryz.results83,go_sem]) rfl ⟨rfl,B⟩
theorem mJ(c:K)(w:World)(ho:c.ok)(hv:eI c=true):
 Calls Tryz.prog 83 #[fC c] w fun e w'=>e=.returned (mS c)∧Below w.heap.size w w':=by
 rcases K.gp hv with rfl|⟨a,b,rfl,h⟩|⟨a,b,rfl,h⟩
 ·have B:Below w.heap.size w (w.alloc (.cells #[.int .i64 0,.int .u64 0,.int .u64 0] 84)):=(af _ _).alloc (ae _) _;clear ho hv;go_enter Tryz.func83,Tryz.ntmps83;go_wp2;exact bodyPost_ret (v:=.tuple #[.int .u64 0,.int .u64 18446744073709551615,.bool true]) (by simp[results,Tryz.results83,go_sem]) rfl ⟨rfl,B⟩
 ·exact yA a b w ho.2.1 ho.2.2 h
 have B:Below w.heap.size w (w.alloc (.cells #[.int .i64 2,.int .u64 (a:Int),.int .u64 (b:Int)] 84)):=(af _ _).alloc (ae _) _;obtain⟨_,ha,hb⟩:=ho;simp only at ha hb;simp only[fC];clear hv;go_enter Tryz.func83,Tryz.ntmps83;go_wp2_with fail;go_quiet(fail);go_wp2;exact bodyPost_ret (v:=.tuple #[.int .u64 (a:Int),.int .u64 (b:Int),.bool true]) (by simp[results,Tryz.results83,go_sem]) rfl ⟨rfl,by first|exact B.drew|exact below_drewN B _⟩
theorem uT{c:K}{lo hi:Nat}(ho:c.ok)(hv:eI c=true)(h:fB c=some (lo,hi)):eQ c=eF lo hi:=by
 rcases K.gp hv with rfl|⟨a,b,rfl,h1⟩|⟨a,b,rfl,h1⟩
 ·simp[fB]at h;obtain⟨rfl,rfl⟩:=h;rw[lW (k:=64) (by omega) (by omega) (by omega) (by rw[qZ]) (by rw[Nat.zero_and])];rfl
 ·have h2:(if iA (inv a)then some (b,b+inv a)else none)=some (lo,hi):=h;by_cases h3:iA (inv a)=true
  ·rw[if_pos h3]at h2;simp at h2;obtain⟨rfl,rfl⟩:=h2;rw[(n9 ho.2.1 h1 h3).2.2];rfl
  rw[if_neg h3]at h2;exact absurd h2 (by simp)
 simp[fB]at h;obtain⟨rfl,rfl⟩:=h;rfl
theorem wk{c:K}(ho:c.ok)(hv:eI c=true)(h:fB c=none):eQ c=c:=by
 rcases K.gp hv with rfl|⟨a,b,rfl,h1⟩|⟨a,b,rfl,h1⟩
 ·simp[fB]at h
 ·have h2:(if iA (inv a)then some (b,b+inv a)else none)=none:=h;by_cases h3:iA (inv a)=true
  ·rw[if_pos h3]at h2;exact absurd h2 (by simp)
  have:a≠0:=fun e=>h3 (by rw[e];decide)
  simp[eQ,fI,this]
 simp[fB]at h
theorem gu.sO(h:gu w g x y z)(x' y' z':Value):gu (((w.setCell ⟨g,0,none⟩ x').setCell ⟨g,1,none⟩ y').setCell ⟨g,2,none⟩ z') g x' y' z':=by
 obtain⟨l,c0,c1,c2,f0,f1,f2⟩:=h;refine⟨by simp[l],?_,?_,?_,by simp[f0],by simp[f1],by simp[f2]⟩
 ·simp[go_sem,c0]
 ·simp[go_sem,c1]
 simp[go_sem,c2]
theorem eM{n:Nat}(h:Below n w w')(hg:n<=g)(x' y' z':Value):Below n w (((w'.setCell ⟨g,0,none⟩ x').setCell ⟨g,1,none⟩ y').setCell ⟨g,2,none⟩ z'):=
 ((h.setCell hg _).setCell hg _).setCell hg _
theorem qY (c : K) (w : World) (ho : c.ok) (hv : eI c = true) :
    Calls Tryz.prog 50 #[fC c] w fun e w' => e = .returned (fC (eQ c)) ∧ Below w.heap.size w w' := by
  have HC : Hid (∀ w, Calls Tryz.prog 83 #[fC c] w fun e w' => e = .returned (mS c) ∧ Below w.heap.size w w') := fun w => mJ c w ho hv
  obtain ⟨N, eN⟩ : ∃ N, eQ c = N := ⟨_, rfl⟩
  have HN0 : Hid (fB c = none -> N = c) := fun h => by rw [<- eN]; exact wk ho hv h
  have HN1 : Hid (∀ lo hi, fB c = some (lo, hi) -> (lo <= hi ∧ hi < 18446744073709551616) ∧ N = eF lo hi) := fun lo hi h => ⟨me ho hv h, by rw [<- eN]; exact uT ho hv h⟩
  rw [eN]
  clear eN hv
  obtain ⟨kind, a, b⟩ := c
  simp only [fC] at HC ⊢
  go_enter Tryz.func50, Tryz.ntmps50
  go_wp2_with fail
  have X := (gu.new w 84 (.int .i64 kind) (.int .u64 (a : Int)) (.int .u64 (b : Int))).alloc (.cells #[.int .i64 0, .int .u64 0, .int .u64 0] 84)
  have Y := gu.new (w.alloc (.cells #[.int .i64 kind, .int .u64 (a : Int), .int .u64 (b : Int)] 84)) 84 (.int .i64 0) (.int .u64 0) (.int .u64 0)
  have hsz : (w.alloc (.cells #[.int .i64 kind, .int .u64 (a : Int), .int .u64 (b : Int)] 84)).heap.size = w.heap.size + 1 := by simp
  have B0 : Below w.heap.size w ((w.alloc (.cells #[.int .i64 kind, .int .u64 (a : Int), .int .u64 (b : Int)] 84)).alloc (.cells #[.int .i64 0, .int .u64 0, .int .u64 0] 84)) := ((af _ _).alloc (ae _) _).alloc (by simp) _
  rw [hsz] at Y
  generalize (w.alloc (.cells #[.int .i64 kind, .int .u64 (a : Int), .int .u64 (b : Int)] 84)).alloc (.cells #[.int .i64 0, .int .u64 0, .int .u64 0] 84) = W at *
  clear hsz
  refine (HC.out _).mono ?_
  rintro e w1 ⟨rfl, hb1⟩
  obtain ⟨_, x0, x1, x2, _, _, _⟩ := X.ey hb1
  have Y1 := Y.ey hb1
  obtain ⟨yl, y0, y1, y2, g0, g1, g2⟩ := Y1
  have B1 := B0.trans (hb1.mono B0.size)
  clear X Y hb1 B0 HC
  cases hb : fB ⟨kind, a, b⟩ with
  | none =>
    have HE : Hid (mS ⟨kind, a, b⟩ = .tuple #[.int .u64 0, .int .u64 0, .bool false]) := by unfold Hid mS; rw [hb]
    rw [HE.out]
    have eN : N = ⟨kind, a, b⟩ := HN0.out hb
    subst eN
    clear HN0 HN1 hb HE
    go_wp2
    exact bodyPost_ret (v := fC ⟨kind, a, b⟩) (by simp [results, Tryz.results50, go_sem, y0, y1, y2]) rfl ⟨rfl, eM B1 (by omega) _ _ _⟩
  | some q =>
    obtain ⟨lo, hi⟩ := q
    have HE : Hid (mS ⟨kind, a, b⟩ = .tuple #[.int .u64 (lo : Int), .int .u64 (hi : Int), .bool true]) := by unfold Hid mS; rw [hb]
    rw [HE.out]
    obtain ⟨⟨hle, hh⟩, eN⟩ := HN1.out lo hi hb
    have HN : Hid (N = eF lo hi) := eN
    clear HN0 HN1 hb HE eN
    have hle' : (lo : Int) <= (hi : Int) := by omega
    have hh' : (hi : Int) <= 18446744073709551615 := by omega
    go_wp2_with fail
    go_loop [6] (fun i => ∃ k : Nat, k <= 65 ∧ i = .int .i64 ((k : Int) - 1) ∧ Hid (∀ j, k <= j -> j <= 64 -> ¬ (hi - lo = low j ∧ lo &&& low j = 0))) (fun i => (intOf i + 1).toNat)
    case atStart => exact ⟨65, by omega, rfl, fun j h1 h2 => by omega⟩
    case round =>
      obtain ⟨k, hk, rfl, HJ⟩ := hrel
      cases k with
      | zero =>
        have HN2 : Hid (N = ⟨2, lo, hi⟩) := by
          unfold Hid
          rw [HN.out]; exact mT hle hh fun j hj => HJ.out j (Nat.zero_le _) hj
        go_wp2
        rw [HN2.out]
        exact bodyPost_ret (v := fC ⟨2, lo, hi⟩) (by simp [results, Tryz.results50, go_sem, y0, y1, y2]) rfl ⟨rfl, eM B1 (by omega) _ _ _⟩
      | succ q =>
        have hq : ((q + 1 : Nat) : Int) - 1 = (q : Int) := by omega
        rw [hq]
        have hq64 : q <= 64 := by omega
        have hq0 : (0 : Int) <= (q : Int) := by omega
        have hl := lU hq64
        have HL : Hid (∀ w, Calls Tryz.prog 84 #[.int .i64 (q : Int)] w fun e w' => e = .returned (.int .u64 (low q : Nat)) ∧ w' = w) := fun w => kF q w hq64
        have HB : Hid (bits .and .u64 (lo : Int) ((low q : Nat) : Int) = ((lo &&& low q : Nat) : Int)) := u64_and lo (low q) (by omega) (by omega)
        by_cases e1 : hi - lo = low q
        · have e1' : (hi : Int) - (lo : Int) = ((low q : Nat) : Int) := by omega
          by_cases e2 : lo &&& low q = 0
          · have e2' : bits .and .u64 (lo : Int) ((low q : Nat) : Int) = 0 := by rw [HB.out, e2]; rfl
            have HN2 : Hid (N = if q = 64 then ⟨0, 0, 0⟩ else ⟨1, inv (low q), lo⟩) := by
              unfold Hid
              rw [HN.out]; exact lW hq64 hle hh e1 e2
            have HI : Hid (18446744073709551615 - ((low q : Nat) : Int) = ((inv (low q) : Nat) : Int)) := by unfold Hid inv; omega
            generalize inv (low q) = I at *
            clear HN HJ HB e1 e2 hq
            generalize low q = L at *
            by_cases e64 : q = 64
            · subst e64
              have HN3 : Hid (N = ⟨0, 0, 0⟩) := HN2.out
              clear HN2
              go_wp2_with fail
              refine (HL.out _).mono ?_
              rintro e w2 ⟨rfl, rfl⟩
              go_wp2
              rw [HN3.out]
              exact bodyPost_ret (v := fC ⟨0, 0, 0⟩) (by simp [results, Tryz.results50, go_sem, y0, y1, y2]) rfl ⟨rfl, eM B1 (by omega) _ _ _⟩
            · have HN3 : Hid (N = ⟨1, I, lo⟩) := by
                unfold Hid
                rw [HN2.out, if_neg e64]
              have e64' : ¬ (q : Int) = 64 := by omega
              clear HN2
              go_wp2_with fail
              refine (HL.out _).mono ?_
              rintro e w2 ⟨rfl, rfl⟩
              go_wp2
              rw [HN3.out, HI.out]
              exact bodyPost_ret (v := fC ⟨1, I, lo⟩) (by simp [results, Tryz.results50, go_sem, y0, y1, y2]) rfl ⟨rfl, eM B1 (by omega) _ _ _⟩
          · have e2' : ¬ bits .and .u64 (lo : Int) ((low q : Nat) : Int) = 0 := by rw [HB.out]; omega
            have HJ' : Hid (∀ j, q <= j -> j <= 64 -> ¬ (hi - lo = low j ∧ lo &&& low j = 0)) := fun j h1 h2 h3 => by
              by_cases hj : j = q
              · subst hj; exact e2 h3.2
              · exact HJ.out j (by omega) h2 h3
            clear HJ HB e1 e2 hq
            generalize low q = L at *
            go_wp2_with fail
            refine (HL.out _).mono ?_
            rintro e w2 ⟨rfl, rfl⟩
            go_wp2
            go_round
            case rel => exact ⟨q, by omega, by go_num, HJ'⟩
            case measure => simp [intOf]
        · have e1' : ¬ (hi : Int) - (lo : Int) = ((low q : Nat) : Int) := by omega
          have HJ' : Hid (∀ j, q <= j -> j <= 64 -> ¬ (hi - lo = low j ∧ lo &&& low j = 0)) := fun j h1 h2 h3 => by
            by_cases hj : j = q
            · subst hj; exact e1 h3.1
            · exact HJ.out j (by omega) h2 h3
          clear HJ HB e1 hq
          generalize low q = L at *
          go_wp2_with fail
          refine (HL.out _).mono ?_
          rintro e w2 ⟨rfl, rfl⟩
          go_wp2
          go_round
          case rel => exact ⟨q, by omega, by go_num, HJ'⟩
          case measure => simp [intOf]
def Rdr(w:World)(R:Nat):Prop:=∃a cap l j,Rd w R a cap l j
def isU(x:Int):Prop:=0<=x∧x<=18446744073709551615
theorem fT(op:BinOp)(a b:Int):isU (bits op .u64 a b):=⟨bits_lo_u64 op a b,bits_hi_u64 op a b⟩
theorem gn(a:Int):isU (IntKind.u64.wrap a):=by rw[aS];unfold isU;omega
theorem Rdr.lt{w:World}{R:Nat}(h:Rdr w R):R<w.heap.size:=by obtain⟨a,cap,l,j,h⟩:=h;exact h.lt
theorem Rdr.below{w w1:World}{R:Nat}(h:Rdr w R)(hb:Below w.heap.size w w1):Rdr w1 R:=by
 obtain⟨a,cap,l,j,h⟩:=h;exact⟨a,cap,l,j,h.below hb⟩
theorem Rdr.own{B:Nat}{row:Option Nat}(h:Rdr w R)(hg:w.grownBy w1 row)(hR:R<B)(hr:∀k,row=some k->B<=k):Rdr w1 R:=by
 obtain⟨a,cap,l,j,h⟩:=h;exact⟨a,cap,l,j,h.grown hg hR hr⟩
structure Dr(w:World)(R:Nat)(w':World):Prop where
 rd:Rdr w' R
 gr:w.grownBy w' (some R)
theorem Dr.refl{w:World}{R:Nat}(h:Rdr w R):Dr w R w:=⟨h,ah _ _⟩
theorem Dr.trans{w2:World}(h:Dr w R w1)(h':Dr w1 R w2):Dr w R w2:=⟨h'.rd,eU h.gr h'.gr⟩
def DrU(w:World)(R:Nat)(e:Ending)(w':World):Prop:=∃x:Int,isU x∧e=.returned (.int .u64 x)∧Dr w R w'
theorem DrU.mk{x:Int}(h:isU x)(hd:Dr w R w'):DrU w R (.returned (.int .u64 x)) w':=⟨x,h,rfl,hd⟩
theorem kU(l:List Int)(hl:eV l)(j:Nat):0<=kB l j∧kB l j<=4294967295:=by
 have hx:=ez hl j;unfold kB;have hp:∀k:Nat,k<32->(1:Int)<=2^k∧(2:Int)^k<=4294967295:=by decide
 have:=hp (l.getD j 0%32).toNat (by omega);split
 ·omega
 split
 ·omega
 split
 ·omega
 split<;>omega
def j9(l:List Int)(j:Nat):Int:=
 if l.getD j 0<120 then l.getD j 0%12 else if l.getD j 0<150 then l.getD j 0%3*4294967296 else if l.getD j 0<170 then 18446744073709551615-l.getD j 0%3
 else if l.getD j 0<190 then 2^(l.getD j 0*7%64).toNat else if l.getD j 0<215 then 140733193392128+l.getD j 0%16*4096 else if l.getD j 0<225 then 4294967295+l.getD j 0%3
 else bits .xor .u64 (kB l (j+1)*4294967297) (kB l (jK l (j+1)))
def k9(l:List Int)(j:Nat):Nat:=if l.getD j 0<225 then j+1 else jK l (jK l (j+1))
theorem yj:∀k:Nat,k<64->(2:Int)^k<=9223372036854775808∧(2:Int)^k%18446744073709551616=2^k∧0<=(2:Int)^k:=by decide
theorem rO(l:List Int)(hl:eV l)(j:Nat):isU (j9 l j):=by
 have hx:=ez hl j;unfold j9;split
 ·unfold isU;omega
 split
 ·unfold isU;omega
 split
 ·unfold isU;omega
 split
 ·have:=yj (l.getD j 0*7%64).toNat (by omega);unfold isU;omega
 split
 ·unfold isU;omega
 split
 ·unfold isU;omega
 exact fT _ _ _
theorem ue(R cap:Nat)(a:Option Addr)(l:List Int)(j:Nat)(w:World)(hR:Rd w R a cap l j):
 Calls Tryz.prog 39 #[.pointer (some ⟨R,0,none⟩)] w fun e w'=>e=.returned (.int .u64 (j9 l j))∧Rd w' R a cap l (k9 l j)∧w.grownBy w' (some R):=by
 have hx:=ez hR.bys j;have HN1:=nx1 R cap a l j (j+1) rfl;have HW1:Hid (∀W,Rd W R a cap l (j+1)->Calls Tryz.prog 79 #[.pointer (some ⟨R,0,none⟩)] W fun e w'=>e=.returned (.int .u32 (kB l (j+1)))∧Rd w' R a cap l (jK l (j+1))∧W.grownBy w' (some R)):=fun W h=>nU R cap a l (j+1) W h
 have HW2:Hid (∀W,Rd W R a cap l (jK l (j+1))->Calls Tryz.prog 79 #[.pointer (some ⟨R,0,none⟩)] W fun e w'=>e=.returned (.int .u32 (kB l (jK l (j+1))))∧Rd w' R a cap l (jK l (jK l (j+1)))∧W.grownBy w' (some R)):=fun W h=>nU R cap a l (jK l (j+1)) W h
 obtain⟨ha0,ha1⟩:=kU l hR.bys (j+1);obtain⟨hb0,hb1⟩:=kU l hR.bys (jK l (j+1));obtain⟨V,hV⟩:∃V,j9 l j=V:=⟨_,rfl⟩;obtain⟨J,hJ⟩:∃J,k9 l j=J:=⟨_,rfl⟩;rw[hV,hJ];unfold j9 at hV;unfold k9 at hJ;generalize l.getD j 0=x at*;generalize kB l (j+1)=y at*;generalize kB l (jK l (j+1))=z at*;generalize jK l (jK l (j+1))=J3 at*;generalize jK l (j+1)=J2 at*;have HV:Hid _:=hV;have HJ:Hid _:=hJ;clear hV hJ;go_enter Tryz.func39,Tryz.ntmps39;go_wp2_with fail;refine(HN1.out _ hR).mono ?_;rintro _ w1⟨rfl,hR1,hg1⟩;by_cases c1:x<120
 ·have hV:V=x%12:=by rw[<-HV.out,if_pos c1]
  have hJ:J=j+1:=by rw[<-HJ.out,if_pos (by omega)]
  subst hV hJ;clear HV HJ HW1 HW2;go_wp2;go_ret;exact⟨rfl,hR1,hg1⟩
 by_cases c2:x<150
 ·have hV:V=x%3*4294967296:=by rw[<-HV.out,if_neg c1,if_pos c2]
  have hJ:J=j+1:=by rw[<-HJ.out,if_pos (by omega)]
  subst hV hJ;clear HV HJ HW1 HW2;go_wp2;go_ret;exact⟨rfl,hR1,hg1⟩
 by_cases c3:x<170
 ·have hV:V=18446744073709551615-x%3:=by rw[<-HV.out,if_neg c1,if_neg c2,if_pos c3]
  have hJ:J=j+1:=by rw[<-HJ.out,if_pos (by omega)]
  subst hV hJ;clear HV HJ HW1 HW2;go_wp2;go_ret;exact⟨rfl,hR1,hg1⟩
 by_cases c4:x<190
 ·have hV:V=2^(x*7%64).toNat:=by rw[<-HV.out,if_neg c1,if_neg c2,if_neg c3,if_pos c4]
  have hJ:J=j+1:=by rw[<-HJ.out,if_pos (by omega)]
  subst hV hJ;clear HV HJ HW1 HW2;go_wp2;go_ret;refine⟨fL ?_,hR1,hg1⟩;have hp:=(yj (x*7%64).toNat (by omega)).2.1;first|exact hp|(rw[aS];exact hp)
 by_cases c5:x<215
 ·have hV:V=140733193392128+x%16*4096:=by rw[<-HV.out,if_neg c1,if_neg c2,if_neg c3,if_neg c4,if_pos c5]
  have hJ:J=j+1:=by rw[<-HJ.out,if_pos (by omega)]
  subst hV hJ;clear HV HJ HW1 HW2;go_wp2;go_ret;exact⟨rfl,hR1,hg1⟩
 by_cases c6:x<225
 ·have hV:V=4294967295+x%3:=by rw[<-HV.out,if_neg c1,if_neg c2,if_neg c3,if_neg c4,if_neg c5,if_pos c6]
  have hJ:J=j+1:=by rw[<-HJ.out,if_pos c6]
  subst hV hJ;clear HV HJ HW1 HW2;go_wp2;go_ret;exact⟨rfl,hR1,hg1⟩
 have hV:V=bits .xor .u64 (y*4294967297) z:=by rw[<-HV.out,if_neg c1,if_neg c2,if_neg c3,if_neg c4,if_neg c5,if_neg c6]
 have hJ:J=J3:=by rw[<-HJ.out,if_neg c6]
 subst hV hJ;clear HV HJ;go_wp2_with fail;refine(HW1.out _ hR1).mono ?_;rintro _ w2⟨rfl,hR2,hg2⟩;go_wp2_with fail;refine(HW2.out _ hR2).mono ?_;rintro _ w3⟨rfl,hR3,hg3⟩;go_wp2;go_ret;exact⟨rfl,hR3,eU hg1 (eU hg2 hg3)⟩
def l8(v:Int)(l:List Int)(j:Nat):Int:=
 if l.getD j 0%8<3 then v else if l.getD j 0%8=3 then(v+1)%18446744073709551616 else if l.getD j 0%8=4 then(v-1)%18446744073709551616
 else if l.getD j 0%8=5 then bits .xor .u64 v (2^(l.getD j 0/8%8).toNat)else if l.getD j 0%8=6 then bits .xor .u64 v (2^(l.getD j 0%64).toNat)else j9 l (j+1)
def qD(l:List Int)(j:Nat):Nat:=if l.getD j 0%8<7 then j+1 else k9 l (j+1)
theorem xn{v:Int}(hv:isU v)(l:List Int)(hl:eV l)(j:Nat):isU (l8 v l j):=by
 unfold l8;split
 ·exact hv
 split
 ·unfold isU;omega
 split
 ·unfold isU;omega
 split
 ·exact fT _ _ _
 split
 ·exact fT _ _ _
 exact rO l hl _
theorem zC(v:Int)(R cap:Nat)(a:Option Addr)(l:List Int)(j:Nat)(w:World)(hv:isU v)(hR:Rd w R a cap l j):
 Calls Tryz.prog 40 #[.int .u64 v,.pointer (some ⟨R,0,none⟩)] w fun e w'=>e=.returned (.int .u64 (l8 v l j))∧Rd w' R a cap l (qD l j)∧w.grownBy w' (some R):=by
 have hx:=ez hR.bys j;have HN1:=nx1 R cap a l j (j+1) rfl;have HA:Hid (∀W,Rd W R a cap l (j+1)->Calls Tryz.prog 39 #[.pointer (some ⟨R,0,none⟩)] W fun e w'=>e=.returned (.int .u64 (j9 l (j+1)))∧Rd w' R a cap l (k9 l (j+1))∧W.grownBy w' (some R)):=fun W h=>ue R cap a l (j+1) W h
 obtain⟨hv0,hv1⟩:=hv;obtain⟨V,hV⟩:∃V,l8 v l j=V:=⟨_,rfl⟩;obtain⟨J,hJ⟩:∃J,qD l j=J:=⟨_,rfl⟩;rw[hV,hJ];unfold l8 at hV;unfold qD at hJ;generalize l.getD j 0=x at*;generalize j9 l (j+1)=y at*;generalize k9 l (j+1)=J2 at*;have HV:Hid _:=hV;have HJ:Hid _:=hJ;clear hV hJ;go_enter Tryz.func40,Tryz.ntmps40;go_wp2_with fail;refine(HN1.out _ hR).mono ?_;rintro _ w1⟨rfl,hR1,hg1⟩;by_cases c1:x%8<3
 ·have hV:V=v:=by rw[<-HV.out,if_pos c1]
  have hJ:J=j+1:=by rw[<-HJ.out,if_pos (by omega)]
  subst hV hJ;clear HV HJ HA;go_wp2;go_ret;exact⟨rfl,hR1,hg1⟩
 by_cases c2:x%8=3
 ·have hV:V=(v+1)%18446744073709551616:=by rw[<-HV.out,if_neg c1,if_pos c2]
  have hJ:J=j+1:=by rw[<-HJ.out,if_pos (by omega)]
  subst hV hJ;clear HV HJ HA;go_wp2;go_ret;refine⟨fL ?_,hR1,hg1⟩;first|rfl|(rw[aS])
 by_cases c3:x%8=4
 ·have hV:V=(v-1)%18446744073709551616:=by rw[<-HV.out,if_neg c1,if_neg c2,if_pos c3]
  have hJ:J=j+1:=by rw[<-HJ.out,if_pos (by omega)]
  subst hV hJ;clear HV HJ HA;go_wp2;go_ret;refine⟨fL ?_,hR1,hg1⟩;first|rfl|(rw[aS])
 by_cases c4:x%8=5
 ·have hV:V=bits .xor .u64 v (2^(x/8%8).toNat):=by rw[<-HV.out,if_neg c1,if_neg c2,if_neg c3,if_pos c4]
  have hJ:J=j+1:=by rw[<-HJ.out,if_pos (by omega)]
  have hp:IntKind.u64.wrap ((2:Int)^(x/8%8).toNat)=2^(x/8%8).toNat:=by rw[aS];exact(yj (x/8%8).toNat (by omega)).2.1
  subst hV hJ;clear HV HJ HA;go_wp2;go_ret;refine⟨fL ?_,hR1,hg1⟩;first|rfl|(rw[hp])
 by_cases c5:x%8=6
 ·have hV:V=bits .xor .u64 v (2^(x%64).toNat):=by rw[<-HV.out,if_neg c1,if_neg c2,if_neg c3,if_neg c4,if_pos c5]
  have hJ:J=j+1:=by rw[<-HJ.out,if_pos (by omega)]
  have hp:IntKind.u64.wrap ((2:Int)^(x%64).toNat)=2^(x%64).toNat:=by rw[aS];exact(yj (x%64).toNat (by omega)).2.1
  subst hV hJ;clear HV HJ HA;go_wp2;go_ret;refine⟨fL ?_,hR1,hg1⟩;first|rfl|(rw[hp])
 have hV:V=y:=by rw[<-HV.out,if_neg c1,if_neg c2,if_neg c3,if_neg c4,if_neg c5]
 have hJ:J=J2:=by rw[<-HJ.out,if_neg (by omega)]
 subst hV hJ;clear HV HJ;go_wp2_with fail;refine(HA.out _ hR1).mono ?_;rintro _ w2⟨rfl,hR2,hg2⟩;go_wp2;go_ret;exact⟨rfl,hR2,eU hg1 hg2⟩
theorem gu.grown{row:Option Nat}(h:gu w g x y z)(hg:w.grownBy w1 row)(hne:some g≠row):gu w1 g x y z:=by
 have e:=hg.block g h.lt hne;have ec:∀o,w1.cell? ⟨g,o,none⟩=w.cell? ⟨g,o,none⟩:=fun o=>aN (w:=w) e
 have ef:∀o,w1.frozen? ⟨g,o,none⟩=w.frozen? ⟨g,o,none⟩:=fun o=>by simp[World.frozen?,e]
 exact⟨an h.lt hg.size,(ec 0).trans h.c0,(ec 1).trans h.c1,(ec 2).trans h.c2,(ef 0).trans h.f0,(ef 1).trans h.f1,(ef 2).trans h.f2⟩
theorem n5(w:World)(G:Nat)(x y z:Value):w.grownBy (((w.setCell ⟨G,0,none⟩ x).setCell ⟨G,1,none⟩ y).setCell ⟨G,2,none⟩ z) (some G):=
 fG (fG (fG (ah _ _) 0 x) 1 y) 2 z
theorem gU{f:Func}{tmps:Array Value}{G t:Nat}(hf:f.results= #[.cell t 84])(ht:tmps[t]? =some (.pointer (some ⟨G,0,none⟩)))(X:gu w G x y z):
 (results f tmps).run Tryz.prog w=.ok (.agg #[x,y,z]) w:=by
 obtain⟨_,c0,c1,c2,_,_,_⟩:=X;simp[results,hf,go_sem,ht,c0,c1,c2]
structure DrB(w:World)(R G:Nat)(w':World):Prop where
 rd:Rdr w' R
 gr:w.grownBy w' (some R)
 bx:gu w' G (.int .i64 0) (.int .u64 0) (.int .u64 0)
theorem DrB.below{w w1 w2:World}{R G:Nat}(h:DrB w R G w1)(hb:Below w1.heap.size w1 w2):DrB w R G w2:=
 ⟨h.rd.below hb,eU h.gr (fJ hb),h.bx.ey hb⟩
theorem DrB.new{w:World}{R:Nat}(h:Rdr w R):DrB w R w.heap.size (w.alloc (.cells #[.int .i64 0,.int .u64 0,.int .u64 0] 84)):=
 ⟨h.below ((af _ _).alloc (ae _) _),fu (ah _ _) _,gu.new w _ _ _ _⟩
theorem DrB.done{G:Nat}(h:DrB w R G w1)(hR:R<G)(hG:w.heap.size<=G)(x y z:Value):Dr w R (((w1.setCell ⟨G,0,none⟩ x).setCell ⟨G,1,none⟩ y).setCell ⟨G,2,none⟩ z):=
 ⟨h.rd.own (n5 _ _ _ _ _) hR (fun k hk=>by simp at hk;omega),jx h.gr (n5 _ _ _ _ _) (fun k hk=>by simp at hk;omega)⟩
def DrK(w:World)(R:Nat)(e:Ending)(w':World):Prop:=∃k a b:Int,(-9223372036854775808<=k∧k<=9223372036854775807)∧isU a∧isU b∧e=.returned (.agg #[.int .i64 k,.int .u64 a,.int .u64 b])∧Dr w R w'
theorem DrK.mk{k a b:Int}(hk: -9223372036854775808<=k∧k<=9223372036854775807)(ha:isU a)(hb:isU b)(hd:Dr w R w'):DrK w R (.returned (.agg #[.int .i64 k,.int .u64 a,.int .u64 b])) w':=⟨k,a,b,hk,ha,hb,rfl,hd⟩
theorem pR(v:Int)(w:World):Calls Tryz.prog 75 #[.int .u64 v] w fun e w'=>e=.returned (.agg #[.int .i64 1,.int .u64 18446744073709551615,.int .u64 v])∧Below w.heap.size w w':=by
 go_enter Tryz.func75,Tryz.ntmps75;go_wp2;refine bodyPost_ret (v:=.agg #[.int .i64 1,.int .u64 18446744073709551615,.int .u64 v]) (by simp[results,Tryz.results75,go_sem]) rfl ⟨rfl,?_⟩;first
  |exact(af _ _).alloc (ae _) _
  |exact eM ((af _ _).alloc (ae _) _) (ae _) _ _ _
end Go.Proofs.YtdihdapmphkhpaaGreat
