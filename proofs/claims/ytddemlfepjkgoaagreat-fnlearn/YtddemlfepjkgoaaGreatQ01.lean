import Derived.Below
import Derived.Test.YtddemlfepjkgoaaGreatChecked
import Derived.WalkKit
import Derived.WalkSpells
import Derived.WalkLawsBesides
import Derived.Laws.Bits64b
import Derived.Laws.BitsAllLaws
import Derived.Test.YtddemlfepjkgoaaGreatRows
set_option linter.all false
set_option maxRecDepth 200000
set_option maxHeartbeats 16000000
namespace Go.Proofs.YtddemlfepjkgoaaGreat
structure I where
 c:Int
 jt:Int
 jf:Int
 k:Int
def I.ok(x:I):Prop:=0<=x.c∧x.c<=65535∧0<=x.jt∧x.jt<=255∧0<=x.jf∧x.jf<=255∧0<=x.k∧x.k<=4294967295
def I.zero:I:=⟨0,0,0,0⟩
theorem I.zero_ok:I.zero.ok:=by unfold I.ok I.zero;decide
end Go.Proofs.YtddemlfepjkgoaaGreat
namespace Go.Proofs.YtddemlfepjkgoaaGreat
open Go.RowKit
theorem ret_int{k:IntKind}{a b:Int}(h:a=b):Ending.returned (.int k a)=.returned (.int k b):=by rw[h]
def InsAt(w:World)(b o:Nat)(p:List I):Prop:=
 ∀i,i<p.length->w.cell? ⟨b,o+i*4,none⟩=some (.int .u16 (p.getD i I.zero).c)∧w.cell? ⟨b,o+i*4+1,none⟩=some (.int .u8 (p.getD i I.zero).jt)∧
  w.cell? ⟨b,o+i*4+2,none⟩=some (.int .u8 (p.getD i I.zero).jf)∧w.cell? ⟨b,o+i*4+3,none⟩=some (.int .u32 (p.getD i I.zero).k)
end Go.Proofs.YtddemlfepjkgoaaGreat
namespace Go.Proofs.YtddemlfepjkgoaaGreat
structure K where
 kind:Int
 a:Nat
 b:Nat
deriving DecidableEq
def K.zero:K:=⟨0,0,0⟩
def K.ok(c:K):Prop:=(-9223372036854775808<=c.kind∧c.kind<=9223372036854775807)∧c.a<18446744073709551616∧c.b<18446744073709551616
theorem K.zero_ok:K.zero.ok:=⟨⟨by decide,by decide⟩,by decide,by decide⟩
def low(k:Nat):Nat:=2^k-1
def inv(x:Nat):Nat:=18446744073709551615-x
theorem low_lt(k:Nat):low k<2^k:=by have:=Nat.two_pow_pos k;unfold low;omega
theorem low_succ(k:Nat):low k+1=2^k:=by have:=Nat.two_pow_pos k;unfold low;omega
theorem low_64:low 64=18446744073709551615:=by decide
theorem low_le{k:Nat}(h:k<=64):low k<=18446744073709551615:=by
 have:=Nat.pow_le_pow_right (n:=2) (by omega) h;have e:2^64=18446744073709551616:=by decide
 unfold low;omega
theorem low_inj{i k:Nat}(h:low i=low k):i=k:=by
 have h1:=low_succ i;have h2:=low_succ k;rw[h]at h1;exact(Nat.pow_right_inj (a:=2) (by omega)).1 (h1.symm.trans h2)
theorem inv_lt(x:Nat):inv x<18446744073709551616:=by unfold inv;omega
theorem inv_inv{x:Nat}(h:x<18446744073709551616):inv (inv x)=x:=by unfold inv;omega
theorem bit_low(k i:Nat):(low k).testBit i=decide (i<k):=Nat.testBit_two_pow_sub_one k i
theorem bit_inv{x:Nat}(h:x<18446744073709551616)(i:Nat):(inv x).testBit i=(decide (i<64)&& !x.testBit i):=by
 have e:inv x=2^64-(x+1):=by unfold inv;omega
 rw[e];exact Nat.testBit_two_pow_sub_succ (by omega) i
theorem bit_hi{x:Nat}(h:x<18446744073709551616){i:Nat}(hi:64<=i):x.testBit i=false:=by
 apply Nat.testBit_lt_two_pow;exact Nat.lt_of_lt_of_le (show x<2^64 by omega) (Nat.pow_le_pow_right (by omega) hi)
theorem and_zero_iff(x y:Nat):x&&&y=0↔∀i,¬(x.testBit i=true∧y.testBit i=true):=by
 constructor
 ·intro h i⟨h1,h2⟩;have e:(x&&&y).testBit i=true:=by rw[Nat.testBit_and,h1,h2];rfl
  rw[h,Nat.zero_testBit]at e;exact absurd e (by decide)
 intro h;apply Nat.eq_of_testBit_eq;intro i;rw[Nat.testBit_and,Nat.zero_testBit];have:=h i;revert this
 cases x.testBit i<;>cases y.testBit i<;>simp
theorem and_eq_iff(x y:Nat):x&&&y=y↔∀i,y.testBit i=true->x.testBit i=true:=by
 constructor
 ·intro h i h1;rw[<-h,Nat.testBit_and]at h1;revert h1
  cases x.testBit i<;>simp
 intro h;apply Nat.eq_of_testBit_eq;intro i;rw[Nat.testBit_and];have:=h i;revert this
 cases x.testBit i<;>cases y.testBit i<;>simp
def isLow(x:Nat):Bool:=x&&&((x+1)%18446744073709551616)==0
theorem lowones:∀n x:Nat,x<=n->x&&&(x+1)=0->∃k,x=low k
 |0,x,hx,_=>⟨0,(Nat.le_zero.1 hx).trans (by decide)⟩
 |n+1,x,hx,h=>by
  by_cases h0:x=0
  ·exact⟨0,by rw[h0];decide⟩
  by_cases h2:x%2=1
  ·obtain⟨k,hk⟩:=lowones n (x/2) (by omega) (by
   have e:(x&&&(x+1))/2=(x/2)&&&(x/2+1):=by
    rw[Nat.and_div_two]
    congr 1;omega
   rw[<-e,h]);refine⟨k+1,?_⟩;have h3:=low_succ k;have h4:=low_succ (k+1);have h5:2^(k+1)=2*2^k:=by rw[Nat.pow_succ];omega
   omega
  exfalso;have e:(x&&&(x+1))/2=(x/2)&&&(x/2):=by
   rw[Nat.and_div_two];congr 1;omega
  rw[h,Nat.and_self]at e;omega
theorem isLow_iff {x : Nat} (hx : x < 18446744073709551616) : isLow x = true ↔ ∃ k, k <= 64 ∧ x = low k := by
  unfold isLow
  rw [beq_iff_eq]
  constructor
  · intro h
    by_cases h1 : x = 18446744073709551615
    · exact ⟨64, by omega, by rw [h1, low_64]⟩
    · rw [Nat.mod_eq_of_lt (by omega)] at h
      obtain ⟨k, hk⟩ := lowones x x (Nat.le_refl _) h
      refine ⟨k, ?_, hk⟩
      rcases Nat.lt_or_ge 64 k with h2 | h2
      · exfalso
        have := Nat.pow_le_pow_right (n := 2) (by omega) (show 65 <= k from h2)
        have e : 2 ^ 65 = 36893488147419103232 := by decide
        have := low_succ k
        omega
      · exact h2
  · rintro ⟨k, hk, rfl⟩
    by_cases h1 : k = 64
    · subst h1; rw [low_64]; decide
    · have h2 : low k + 1 < 18446744073709551616 := by
        have := Nat.pow_lt_pow_right (a := 2) (by omega) (show k < 64 by omega)
        have e : 2 ^ 64 = 18446744073709551616 := by decide
        rw [low_succ]; omega
      rw [Nat.mod_eq_of_lt h2, low_succ, and_zero_iff]
      rintro i ⟨h3, h4⟩
      rw [bit_low] at h3
      rw [Nat.testBit_two_pow] at h4
      simp at h3 h4
      omega
theorem add_low{a k:Nat}(h:a&&&low k=0):a+low k=a|||low k∧a^^^low k=a|||low k:=by
 have h1:a%2^k=0:=by rw[<-Nat.and_two_pow_sub_one_eq_mod];exact h
 refine⟨(nat_join k a (low k) h1 (low_lt k)).symm,?_⟩;apply Nat.eq_of_testBit_eq;intro i;have:=(and_zero_iff _ _).1 h i;rw[Nat.testBit_xor,Nat.testBit_or];revert this
 cases a.testBit i<;>cases(low k).testBit i<;>simp
theorem xor_cancel(a b:Nat):a^^^(a^^^b)=b:=by
 rw[<-Nat.xor_assoc,Nat.xor_self,Nat.zero_xor]
theorem block_iff{a b k:Nat}(h:a<=b):(b-a=low k∧a&&&low k=0)↔(a^^^b=low k∧a&&&(a^^^b)=0):=by
 constructor
 ·rintro⟨h1,h2⟩;have e:b=a^^^low k:=by rw[(add_low h2).2,<-(add_low h2).1];omega
  have e2:a^^^b=low k:=by rw[e,xor_cancel]
  exact⟨e2,by rw[e2];exact h2⟩
 rintro⟨h1,h2⟩;rw[h1]at h2;have e:b=a^^^low k:=by rw[<-h1,xor_cancel]
 rw[(add_low h2).2,<-(add_low h2).1]at e;exact⟨by omega,h2⟩
def newMask(m v:Nat):K:=if m=0 then⟨0,0,0⟩else⟨1,m,v⟩
def newRange(l h:Nat):K:=if isLow (l^^^h)=true∧l&&&(l^^^h)=0 then newMask (inv (l^^^h)) l else⟨2,l,h⟩
def normK(c:K):K:=if c.kind=1 then newMask c.a c.b else if c.kind=2 then newRange c.a c.b else⟨0,0,0⟩
def validK(c:K):Bool:=(c.kind==0&&c.a==0&&c.b==0)||(c.kind==1&&c.a|||c.b==c.a)||(c.kind==2&&decide (c.a<=c.b))
def holdsK(c:K)(v:Nat):Bool:=if c.kind=1 then v&&&c.a==c.b else if c.kind=2 then decide (c.a<=v)&&decide (v<=c.b)else true
theorem xor_lt{a b:Nat}(h:a<18446744073709551616)(h':b<18446744073709551616):a^^^b<18446744073709551616:=Nat.xor_lt_two_pow (n:=64) h h'
theorem and_lt{a b:Nat}(h:a<18446744073709551616):a&&&b<18446744073709551616:=Nat.lt_of_le_of_lt Nat.and_le_left h
theorem or_lt{a b:Nat}(h:a<18446744073709551616)(h':b<18446744073709551616):a|||b<18446744073709551616:=Nat.or_lt_two_pow (n:=64) h h'
theorem newRange_block{l h k:Nat}(hk:k<=64)(hlh:l<=h)(hh:h<18446744073709551616)(e:h-l=low k)(e2:l&&&low k=0):
 newRange l h=if k=64 then⟨0,0,0⟩else⟨1,inv (low k),l⟩:=by
 obtain⟨h1,h2⟩:=(block_iff hlh).1 ⟨e,e2⟩;have h3:isLow (l^^^h)=true:=(isLow_iff (xor_lt (by omega) hh)).2 ⟨k,hk,h1⟩;unfold newRange newMask;rw[if_pos ⟨h3,h2⟩,h1];by_cases e64:k=64
 ·subst e64;rw[if_pos rfl,if_pos (by rw[low_64];rfl)]
 rw[if_neg e64,if_neg];intro e5;apply e64;have:=low_le hk;apply low_inj;rw[low_64];unfold inv at e5;omega
theorem newRange_none{l h:Nat}(hlh:l<=h)(hh:h<18446744073709551616)(e:∀k,k<=64->¬(h-l=low k∧l&&&low k=0)):newRange l h=⟨2,l,h⟩:=by
 unfold newRange;rw[if_neg];rintro⟨h1,h2⟩;obtain⟨k,hk,h3⟩:=(isLow_iff (xor_lt (by omega) hh)).1 h1;exact e k hk ((block_iff hlh).2 ⟨h3,h2⟩)
theorem valid_mask{a b:Nat}(h:a|||b=a):∀i,b.testBit i=true->a.testBit i=true:=by
 intro i hi;rw[<-h,Nat.testBit_or,hi,Bool.or_true]
theorem mask_free{a b:Nat}(ha:a<18446744073709551616)(h:a|||b=a):b&&&inv a=0:=by
 rw[and_zero_iff];rintro i⟨h1,h2⟩;rw[bit_inv ha,valid_mask h i h1]at h2;simp at h2
theorem mask_block{a b:Nat}(ha:a<18446744073709551616)(h:a|||b=a)(h1:isLow (inv a)=true):
 b+inv a=b|||inv a∧b+inv a<18446744073709551616∧newRange b (b+inv a)=newMask a b:=by
 obtain⟨k,hk,e⟩:=(isLow_iff (inv_lt a)).1 h1;have h2:=mask_free ha h;have hb:b<18446744073709551616:=by
  have:= @Nat.right_le_or a b;omega
 have h3:=add_low (by rw[<-e];exact h2:b&&&low k=0);have h4:b+inv a<18446744073709551616:=by rw[e,h3.1];exact or_lt hb (by rw[<-e];exact inv_lt a)
 refine⟨by rw[e];exact h3.1,h4,?_⟩;obtain⟨h5,h6⟩:=(block_iff (a:=b) (b:=b+inv a) (k:=k) (by omega)).1 ⟨by omega,by rw[<-e];exact h2⟩;unfold newRange;rw[if_pos ⟨by rw[h5,<-e];exact h1,h6⟩,h5,<-e,inv_inv ha]
theorem bit_shift(v k i:Nat):(v/2^k*2^k).testBit i=(decide (k<=i)&&v.testBit i):=by
 rw[Nat.testBit_mul_two_pow,Nat.testBit_div_two_pow];by_cases h:k<=i
 ·simp[h,Nat.sub_add_cancel h]
 simp[h]
theorem and_inv_low{v k:Nat}(hv:v<18446744073709551616)(hk:k<=64):v&&&inv (low k)=v/2^k*2^k:=by
 apply Nat.eq_of_testBit_eq;intro i;have:=low_le hk;rw[Nat.testBit_and,bit_inv (by omega),bit_low,bit_shift];by_cases h:i<64
 ·by_cases h1:i<k
  ·simp[h,h1,show¬k<=i by omega]
  simp[h,h1,show k<=i by omega]
 simp[bit_hi hv (show 64<=i by omega)]
theorem block_mem{v k a:Nat}(hv:v<18446744073709551616)(hk:k<=64)(ha:a&&&low k=0):(v&&&inv (low k)=a)↔(a<=v∧v<=a+low k):=by
 have h1:a%2^k=0:=by rw[<-Nat.and_two_pow_sub_one_eq_mod];exact ha
 rw[and_inv_low hv hk];have h2:=low_succ k;have hp:=Nat.two_pow_pos k;obtain⟨q,hq⟩:∃q,a=2^k*q:=(Nat.dvd_iff_mod_eq_zero.2 h1);generalize 2^k=p at*;constructor
 ·intro h;have h3:=Nat.div_mul_le_self v p;have h4:=Nat.lt_div_mul_add hp (a:=v);omega
 rintro⟨h3,h4⟩;have:v/p=q:=by
  apply Nat.div_eq_of_lt_le
  ·rw[Nat.mul_comm];omega
  rw[Nat.add_mul,Nat.mul_comm q p];omega
 rw[this,Nat.mul_comm,<-hq]
theorem K.valid_cases{c:K}(h:validK c=true):(c=⟨0,0,0⟩)∨(∃a b,c=⟨1,a,b⟩∧a|||b=a)∨(∃a b,c=⟨2,a,b⟩∧a<=b):=by
 obtain⟨k,a,b⟩:=c;simp only[validK,Bool.or_eq_true,Bool.and_eq_true,beq_iff_eq,decide_eq_true_eq]at h;rcases h with(⟨⟨rfl,rfl⟩,rfl⟩|⟨rfl,h⟩)|⟨rfl,h⟩
 ·exact .inl rfl
 ·exact .inr (.inl ⟨a,b,rfl,h⟩)
 exact .inr (.inr ⟨a,b,rfl,h⟩)
def Normal(c:K):Prop:=c=⟨0,0,0⟩∨(∃a b,c=⟨1,a,b⟩∧a≠0∧a<18446744073709551616∧a|||b=a)∨
 (∃l h,c=⟨2,l,h⟩∧l<=h∧h<18446744073709551616∧∀k,k<=64->¬(h-l=low k∧l&&&low k=0))
theorem newMask_normal{a b:Nat}(ha:a<18446744073709551616)(h:a|||b=a):Normal (newMask a b):=by
 unfold newMask;by_cases h0:a=0
 ·rw[if_pos h0];exact .inl rfl
 rw[if_neg h0];exact .inr (.inl ⟨a,b,rfl,h0,ha,h⟩)
theorem or_inv_low{l k:Nat}(hl:l<18446744073709551616)(hk:k<=64)(h:l&&&low k=0):inv (low k)|||l=inv (low k):=by
 apply Nat.eq_of_testBit_eq;intro i;have h0:=low_le hk;have h1:=(and_zero_iff _ _).1 h i;rw[Nat.testBit_or,bit_inv (by omega),bit_low];rw[bit_low]at h1;by_cases h2:i<64
 ·by_cases h3:i<k
  ·simp[h3]at h1;simp[h3,h1]
  simp[h2,h3]
 simp[bit_hi hl (show 64<=i by omega)]
theorem newRange_normal{l h:Nat}(hlh:l<=h)(hh:h<18446744073709551616):Normal (newRange l h):=by
 by_cases e:∃k,k<=64∧h-l=low k∧l&&&low k=0
 ·obtain⟨k,hk,e1,e2⟩:=e;rw[newRange_block hk hlh hh e1 e2];by_cases e64:k=64
  ·rw[if_pos e64];exact .inl rfl
  rw[if_neg e64];refine .inr (.inl ⟨_,_,rfl,?_,inv_lt _,or_inv_low (by omega) hk e2⟩);intro e5;apply e64;have:=low_le hk;apply low_inj;rw[low_64];unfold inv at e5;omega
 have e':∀k,k<=64->¬(h-l=low k∧l&&&low k=0):=fun k hk hx=>e ⟨k,hk,hx.1,hx.2⟩
 rw[newRange_none hlh hh e'];exact .inr (.inr ⟨l,h,rfl,hlh,hh,e'⟩)
theorem normK_normal{c:K}(ho:c.ok)(hv:validK c=true):Normal (normK c):=by
 rcases K.valid_cases hv with rfl|⟨a,b,rfl,h⟩|⟨a,b,rfl,h⟩
 ·exact .inl rfl
 ·exact newMask_normal ho.2.1 h
 exact newRange_normal h ho.2.2
theorem Normal.ok{c:K}(h:Normal c):c.ok:=by
 rcases h with rfl|⟨a,b,rfl,h0,ha,h⟩|⟨a,b,rfl,h,hb,_⟩
 ·exact K.zero_ok
 ·have:= @Nat.right_le_or a b;exact⟨⟨by simp,by simp⟩,ha,by simp only;omega⟩
 exact⟨⟨by simp,by simp⟩,by simp only;omega,hb⟩
theorem Normal.valid{c:K}(h:Normal c):validK c=true:=by
 rcases h with rfl|⟨a,b,rfl,h0,ha,h⟩|⟨a,b,rfl,h,hb,_⟩
 ·rfl
 ·simp[validK,h]
 simp[validK,h]
theorem holds_mask{a b v:Nat}:holdsK ⟨1,a,b⟩ v=(v&&&a==b):=rfl
theorem holds_range{a b v:Nat}:holdsK ⟨2,a,b⟩ v=(decide (a<=v)&&decide (v<=b)):=rfl
theorem holds_any{v:Nat}:holdsK ⟨0,0,0⟩ v=true:=rfl
theorem newMask_holds{a b v:Nat}(h:a|||b=a):holdsK (newMask a b) v=holdsK ⟨1,a,b⟩ v:=by
 unfold newMask;by_cases h0:a=0
 ·subst h0;have:b=0:=by rw[Nat.zero_or]at h;exact h
  subst this;rw[if_pos rfl,holds_any,holds_mask,Nat.and_zero];rfl
 rw[if_neg h0]
theorem newRange_holds{l h v:Nat}(hlh:l<=h)(hh:h<18446744073709551616)(hv:v<18446744073709551616):holdsK (newRange l h) v=holdsK ⟨2,l,h⟩ v:=by
 by_cases e:∃k,k<=64∧h-l=low k∧l&&&low k=0
 ·obtain⟨k,hk,e1,e2⟩:=e;have e3:holdsK (newRange l h) v=(v&&&inv (low k)==l):=by
   obtain⟨h1,h2⟩:=(block_iff hlh).1 ⟨e1,e2⟩;have h3:isLow (l^^^h)=true:=(isLow_iff (xor_lt (by omega) hh)).2 ⟨k,hk,h1⟩;unfold newRange;rw[if_pos ⟨h3,h2⟩,h1,newMask_holds (or_inv_low (by omega) hk e2),holds_mask]
  rw[e3,holds_range];have h4:=block_mem hv hk e2;rw[show l+low k=h by omega]at h4;rw[Bool.eq_iff_iff,beq_iff_eq,h4];simp
 rw[newRange_none hlh hh fun k hk hx=>e ⟨k,hk,hx.1,hx.2⟩]
theorem normK_holds{c:K}{v:Nat}(ho:c.ok)(hv:validK c=true)(h:v<18446744073709551616):holdsK (normK c) v=holdsK c v:=by
 rcases K.valid_cases hv with rfl|⟨a,b,rfl,h1⟩|⟨a,b,rfl,h1⟩
 ·rfl
 ·exact newMask_holds h1
 exact newRange_holds h1 ho.2.2 h
def Within(a b:K):Prop:=∀v,v<18446744073709551616->holdsK a v=true->holdsK b v=true
def lowK(c:K):Nat:=if c.kind=1 then c.b else if c.kind=2 then c.a else 0
def highK(c:K):Nat:=if c.kind=1 then c.b|||inv c.a else if c.kind=2 then c.b else 18446744073709551615
theorem mask_bits{a b v:Nat}:v&&&a=b↔∀i,(v.testBit i&&a.testBit i)=b.testBit i:=by
 constructor
 ·rintro rfl i;rw[Nat.testBit_and]
 intro h;apply Nat.eq_of_testBit_eq;intro i;rw[Nat.testBit_and,h]
theorem le_or_of_bits{x y:Nat}(h:∀i,x.testBit i=true->y.testBit i=true):x<=y:=by
 have e:x|||y=y:=by
  apply Nat.eq_of_testBit_eq;intro i;have:=h i;rw[Nat.testBit_or];revert this
  cases x.testBit i<;>cases y.testBit i<;>simp
 rw[<-e];exact Nat.left_le_or
theorem bounds_mask{a b:Nat}(ha:a<18446744073709551616)(h:a|||b=a):
 holdsK ⟨1,a,b⟩ b=true∧holdsK ⟨1,a,b⟩ (b|||inv a)=true∧∀v,v<18446744073709551616->holdsK ⟨1,a,b⟩ v=true->b<=v∧v<=b|||inv a:=by
 have hb:=valid_mask h;refine⟨?_,?_,fun v hv h1=> ?_⟩
 ·rw[holds_mask,beq_iff_eq,mask_bits];intro i;have:=hb i;revert this
  cases a.testBit i<;>cases b.testBit i<;>simp
 ·rw[holds_mask,beq_iff_eq,mask_bits];intro i;have:=hb i;rw[Nat.testBit_or,bit_inv ha];revert this
  cases a.testBit i<;>cases b.testBit i<;>simp
 rw[holds_mask,beq_iff_eq,mask_bits]at h1;constructor
 ·apply le_or_of_bits;intro i hi;have:=h1 i;rw[hi]at this;revert this
  cases v.testBit i<;>simp
 apply le_or_of_bits;intro i hi;have h2:=h1 i;rw[hi]at h2;rw[Nat.testBit_or,bit_inv ha,<-h2];have:i<64:=by
  rcases Nat.lt_or_ge i 64 with h3|h3
  ·exact h3
  rw[bit_hi hv h3]at hi;exact absurd hi (by decide)
 simp[this]
theorem bounds_of{c:K}(h:Normal c):lowK c<18446744073709551616∧highK c<18446744073709551616∧holdsK c (lowK c)=true∧holdsK c (highK c)=true∧∀v,v<18446744073709551616->holdsK c v=true->lowK c<=v∧v<=highK c:=by
 have ho:=h.ok;rcases h with rfl|⟨a,b,rfl,h0,ha,h⟩|⟨a,b,rfl,h,hb,h2⟩
 ·exact⟨by decide,by decide,rfl,rfl,fun v hv _=>⟨by simp[lowK],by simp[highK];omega⟩⟩
 ·exact⟨ho.2.2,or_lt ho.2.2 (inv_lt _),bounds_mask ha h⟩
 refine⟨ho.2.1,hb,?_,?_,fun v hv h1=> ?_⟩
 ·simp[holds_range,lowK,h]
 ·simp[holds_range,highK,h]
 simpa[holds_range,lowK,highK]using h1
def lenN(x:Nat):Nat:=if x=0 then 0 else Nat.log2 x+1
theorem lenN_lt(x:Nat):x<2^lenN x:=by
 unfold lenN;by_cases h:x=0
 ·rw[if_pos h,h];decide
 rw[if_neg h];exact Nat.lt_log2_self
theorem lenN_ge{x:Nat}(h:x≠0):2^(lenN x-1)<=x:=by
 unfold lenN;rw[if_neg h,Nat.add_sub_cancel];exact Nat.log2_self_le h
theorem lenN_le{x:Nat}(h:x<18446744073709551616):lenN x<=64:=by
 unfold lenN;by_cases h0:x=0
 ·rw[if_pos h0];omega
 rw[if_neg h0];have:Nat.log2 x<64:=(Nat.log2_lt h0).2 h;omega
theorem range_top{l h x n:Nat}(e:l^^^h<2^n)(h1:l<=x)(h2:x<=h){i:Nat}(hi:n<=i):x.testBit i=l.testBit i:=by
 have e1:l/2^n=h/2^n:=by
  have e2:(l^^^h)/2^n=0:=Nat.div_eq_of_lt e;rw[Nat.xor_div_two_pow]at e2;have e6:=xor_cancel (l/2^n) (h/2^n);rw[e2,Nat.xor_zero]at e6;exact e6
 have e3:l/2^n<=x/2^n:=Nat.div_le_div_right h1;have e4:x/2^n<=h/2^n:=Nat.div_le_div_right h2;have e5:x/2^n=l/2^n:=by omega
 have b1:(x/2^n).testBit (i-n)=x.testBit (i-n+n):=Nat.testBit_div_two_pow x (i-n);have b2:(l/2^n).testBit (i-n)=l.testBit (i-n+n):=Nat.testBit_div_two_pow l (i-n);rw[e5,b2,Nat.sub_add_cancel hi]at b1;exact b1.symm
theorem range_low{l h:Nat}(hlh:l<=h)(h0:l^^^h≠0):∃y,l<=y∧y+1<=h∧∀i,i<lenN (l^^^h)->y.testBit i≠(y+1).testBit i:=by
 have hlt:=lenN_lt (l^^^h);have hge:=lenN_ge h0;have hn:0<lenN (l^^^h):=by unfold lenN;rw[if_neg h0];omega
 obtain⟨m,hm⟩:∃m,lenN (l^^^h)=m+1:=⟨lenN (l^^^h)-1,by omega⟩;rw[hm]at hlt hge⊢;rw[Nat.add_sub_cancel]at hge;have hp:=Nat.two_pow_pos m;have e1:(l^^^h)/2^m=1:=by
  apply Nat.div_eq_of_lt_le
  ·omega
  rw[Nat.pow_succ]at hlt;omega
 rw[Nat.xor_div_two_pow]at e1;have e2:h/2^m=l/2^m^^^1:=by rw[<-e1,xor_cancel]
 have e3:l/2^m<=h/2^m:=Nat.div_le_div_right hlh;have e4:(h/2^m)/2=(l/2^m)/2:=by rw[e2,Nat.xor_div_two];simp
 have e5:(h/2^m)%2=(l/2^m+1)%2:=by
  have e9:(h/2^m).testBit 0=((l/2^m).testBit 0^^(1:Nat).testBit 0):=by rw[e2,Nat.testBit_xor]
  rw[Nat.testBit_zero,Nat.testBit_zero,Nat.testBit_zero]at e9;rcases Nat.mod_two_eq_zero_or_one (l/2^m)with g|g<;>rw[g]at e9<;>simp at e9<;>omega
 have e6:∃q,l/2^m=2*q∧h/2^m=2*q+1:=⟨(l/2^m)/2,by omega,by omega⟩;obtain⟨q,e7,e8⟩:=e6;have l1:=Nat.lt_div_mul_add hp (a:=l);have h1:=Nat.div_mul_le_self h (2^m);rw[e7]at l1;rw[e8]at h1;have hl:=low_succ m;refine⟨2^m*(2*q)+low m,?_,?_,fun i hi=> ?_⟩
 ·rw[Nat.mul_comm (2^m)];omega
 ·rw[Nat.add_mul,Nat.one_mul]at h1;rw[Nat.mul_comm (2^m)];omega
 have y1:2^m*(2*q)+low m+1=2^m*(2*q+1)+0:=by rw[Nat.mul_add,Nat.mul_one];omega
 rw[y1,Nat.testBit_two_pow_mul_add _ (low_lt m),Nat.testBit_two_pow_mul_add _ hp];by_cases hi2:i<m
 ·rw[if_pos hi2,if_pos hi2,bit_low];simp[hi2]
 have:i=m:=by omega
 subst this;rw[if_neg hi2,if_neg hi2,Nat.sub_self,Nat.testBit_zero,Nat.testBit_zero];have a1:2*q%2=0:=by omega
 have a2:(2*q+1)%2=1:=by omega
 simp
def agreeM(c:K):Nat:=if c.kind=1 then c.a else if c.kind=2 then inv (low (lenN (c.a^^^c.b)))else 0
def agreeV(c:K):Nat:=if c.kind=1 then c.b else if c.kind=2 then c.a&&&inv (low (lenN (c.a^^^c.b)))else 0
def withinI(a b:K):Bool:=
 if b.kind=1 then(agreeM a&&&b.a==b.a)&&(agreeV a&&&b.a==b.b)else if b.kind=2 then decide (b.a<=lowK a)&&decide (highK a<=b.b)else true
theorem bit_lt64{x:Nat}(h:x<18446744073709551616){i:Nat}(hi:x.testBit i=true):i<64:=by
 rcases Nat.lt_or_ge i 64 with h1|h1
 ·exact h1
 rw[bit_hi h h1]at hi;exact absurd hi (by decide)
theorem range_mask{l h m v:Nat}(hlh:l<=h)(hh:h<18446744073709551616)(hm:m<18446744073709551616):
 Within ⟨2,l,h⟩ ⟨1,m,v⟩↔(inv (low (lenN (l^^^h)))&&&m=m∧l&&&inv (low (lenN (l^^^h)))&&&m=v):=by
 have hx:=xor_lt (show l<18446744073709551616 by omega) hh;have hn:=lenN_le hx;have hlt:=lenN_lt (l^^^h);have bi:∀i,(inv (low (lenN (l^^^h)))).testBit i=(decide (i<64)&& !decide (i<lenN (l^^^h))):=fun i=>by
  rw[bit_inv (by have:=low_le hn;omega),bit_low]
 have key:(inv (low (lenN (l^^^h)))&&&m=m)->l&&&inv (low (lenN (l^^^h)))&&&m=l&&&m:=fun e=>by rw[Nat.and_assoc,e]
 constructor
 ·intro hw;have w:∀x,l<=x->x<=h->x&&&m=v:=fun x h1 h2=>by
   have:=hw x (by omega) (by rw[holds_range];simp[h1,h2]);rwa [holds_mask,beq_iff_eq]at this
  have e:inv (low (lenN (l^^^h)))&&&m=m:=by
   rw[and_eq_iff];intro i hi;rw[bi];by_cases h1:i<lenN (l^^^h)
   ·exfalso;have h0:l^^^h≠0:=fun h0=>by rw[h0]at h1;exact absurd h1 (by unfold lenN;simp)
    obtain⟨y,y1,y2,y3⟩:=range_low hlh h0;have b1:=mask_bits.1 (w y y1 (by omega)) i;have b2:=mask_bits.1 (w (y+1) (by omega) y2) i;rw[hi,Bool.and_true]at b1 b2;exact y3 i h1 (b1.trans b2.symm)
   simp[h1,bit_lt64 hm hi]
  exact⟨e,by rw[key e];exact w l (Nat.le_refl _) hlh⟩
 rintro⟨e,e2⟩x hxl hx2;rw[holds_range]at hx2;simp only[Bool.and_eq_true,decide_eq_true_eq]at hx2;rw[holds_mask,beq_iff_eq,<-e2,key e];apply Nat.eq_of_testBit_eq;intro i;rw[Nat.testBit_and,Nat.testBit_and];by_cases hi:m.testBit i=true
 ·have:=(and_eq_iff _ _).1 e i hi;rw[bi]at this;simp at this;rw[range_top hlt hx2.1 hx2.2 this.2]
 rw[Bool.not_eq_true]at hi;rw[hi,Bool.and_false,Bool.and_false]
theorem flip_lt{x i:Nat}(h:x<18446744073709551616)(hi:i<64):x^^^2^i<18446744073709551616:=
 xor_lt h (Nat.pow_lt_pow_right (a:=2) (by omega) hi)
theorem mask_mask{am av m v:Nat}(ha:am<18446744073709551616)(hm:m<18446744073709551616)(h:am|||av=am):
 Within ⟨1,am,av⟩ ⟨1,m,v⟩↔(am&&&m=m∧av&&&m=v):=by
 have hb:=valid_mask h;have hav:av<18446744073709551616:=by have:= @Nat.right_le_or am av;omega
 have in0:=(bounds_mask ha h).1;constructor
 ·intro hw;have e0:=hw av hav in0;rw[holds_mask,beq_iff_eq]at e0;refine⟨?_,e0⟩;rw[and_eq_iff];intro i hi
  cases hc:am.testBit i with
  |true=>rfl
  |false=>
   exfalso;have i64:=bit_lt64 hm hi;have e1:=hw (av^^^2^i) (flip_lt hav i64) (by
    rw[holds_mask,beq_iff_eq,mask_bits]
    intro j
    rw[holds_mask,beq_iff_eq,mask_bits]at in0
    rw[Nat.testBit_xor,Nat.testBit_two_pow]
    by_cases hj:i=j
    ·subst hj;rw[hc,Bool.and_false,<-in0 i,hc,Bool.and_false]
    have:=in0 j
    rw[decide_eq_false hj,Bool.xor_false];exact this)
   rw[holds_mask,beq_iff_eq]at e1;have b0:=mask_bits.1 e0 i;have b1:=mask_bits.1 e1 i;rw[hi,Bool.and_true]at b0 b1;rw[Nat.testBit_xor,Nat.testBit_two_pow,<-b0]at b1;simp at b1
 rintro⟨e1,e2⟩x hx h1;rw[holds_mask,beq_iff_eq]at h1;rw[holds_mask,beq_iff_eq,<-e2,<-h1,Nat.and_assoc,e1]
theorem within_range{a:K}{l h:Nat}(ha:Normal a):Within a ⟨2,l,h⟩↔(l<=lowK a∧highK a<=h):=by
 obtain⟨h1,h2,h3,h4,h5⟩:=bounds_of ha;constructor
 ·intro hw;have e1:=hw _ h1 h3;have e2:=hw _ h2 h4;rw[holds_range]at e1 e2;simp at e1 e2;exact⟨e1.1,e2.2⟩
 rintro⟨e1,e2⟩v hv h6;have:=h5 v hv h6;rw[holds_range];simp;omega
theorem withinI_iff {a b : K} (ha : Normal a) (hb : Normal b) : withinI a b = true ↔ Within a b := by
  rcases hb with rfl | ⟨m, v, rfl, h0, hm, h⟩ | ⟨l, h, rfl, hlh, hh, h2⟩
  · simp only [withinI]; simp; intro v hv h1; rfl
  · have e : withinI a ⟨1, m, v⟩ = ((agreeM a &&& m == m) && (agreeV a &&& m == v)) := rfl
    rw [e, Bool.and_eq_true, beq_iff_eq, beq_iff_eq]
    rcases ha with rfl | ⟨am, av, rfl, h0', ham, h'⟩ | ⟨l, h', rfl, hlh, hh, h2⟩
    · have e1 : Within ⟨0, 0, 0⟩ ⟨1, m, v⟩ ↔ Within ⟨1, 0, 0⟩ ⟨1, m, v⟩ := by
        unfold Within
        constructor
        · intro hw x hx _; exact hw x hx rfl
        · intro hw x hx _; exact hw x hx (by rw [holds_mask, Nat.and_zero]; rfl)
      rw [e1, mask_mask (by omega) hm rfl]; rfl
    · rw [mask_mask ham hm h']; rfl
    · rw [range_mask hlh hh hm]; rfl
  · have e : withinI a ⟨2, l, h⟩ = (decide (l <= lowK a) && decide (highK a <= h)) := rfl
    rw [e, within_range ha]; simp
def blockK(c:K):Option (Nat×Nat):=if c.kind=0 then some (0,18446744073709551615)else if c.kind=2 then some (c.a,c.b)else if isLow (inv c.a)then some (c.b,c.b+inv c.a)else none
theorem block_holds{c:K}{lo hi v:Nat}(ho:c.ok)(hv:validK c=true)(h:blockK c=some (lo,hi))(hb:v<18446744073709551616):holdsK c v=true↔(lo<=v∧v<=hi):=by
 rcases K.valid_cases hv with rfl|⟨a,b,rfl,h1⟩|⟨a,b,rfl,h1⟩
 ·simp[blockK]at h;obtain⟨rfl,rfl⟩:=h;simp[holds_any];omega
 ·have h2:(if isLow (inv a)then some (b,b+inv a)else none)=some (lo,hi):=h;by_cases h3:isLow (inv a)=true
  ·rw[if_pos h3]at h2;simp at h2;obtain⟨rfl,rfl⟩:=h2;obtain⟨e1,e2,e3⟩:=mask_block ho.2.1 h1 h3;rw[<-newMask_holds h1,<-e3,newRange_holds (by omega) e2 hb,holds_range];simp
  rw[if_neg h3]at h2;exact absurd h2 (by simp)
 simp[blockK]at h;obtain⟨rfl,rfl⟩:=h;rw[holds_range];simp
theorem block_lt{c:K}{lo hi:Nat}(ho:c.ok)(hv:validK c=true)(h:blockK c=some (lo,hi)):lo<=hi∧hi<18446744073709551616:=by
 rcases K.valid_cases hv with rfl|⟨a,b,rfl,h1⟩|⟨a,b,rfl,h1⟩
 ·simp[blockK]at h;omega
 ·have h2:(if isLow (inv a)then some (b,b+inv a)else none)=some (lo,hi):=h;by_cases h3:isLow (inv a)=true
  ·rw[if_pos h3]at h2;simp at h2;obtain⟨rfl,rfl⟩:=h2;obtain⟨e1,e2,e3⟩:=mask_block ho.2.1 h1 h3;exact⟨by omega,e2⟩
  rw[if_neg h3]at h2;exact absurd h2 (by simp)
 simp[blockK]at h;obtain⟨rfl,rfl⟩:=h;exact⟨h1,ho.2.2⟩
theorem and_bit(x k:Nat):(x&&&2^k=0)↔x.testBit k=false:=by
 rw[and_zero_iff];constructor
 ·intro h;have:=h k;rw[Nat.testBit_two_pow_self]at this;simpa using this
 rintro h i⟨h1,h2⟩;rw[Nat.testBit_two_pow]at h2;have:k=i:=by simpa using h2
 subst this;rw[h]at h1;exact absurd h1 (by decide)
end Go.Proofs.YtddemlfepjkgoaaGreat
namespace Go.Proofs.YtddemlfepjkgoaaGreat
open Go.RowKit
abbrev conV(c:K):Value:=.agg #[.int .i64 c.kind,.int .u64 (c.a:Int),.int .u64 (c.b:Int)]
theorem u64_and(a b:Nat)(ha:a<18446744073709551616)(hb:b<18446744073709551616):bits .and .u64 (a:Int) (b:Int)=((a&&&b:Nat):Int):=bits_and_u64_nat a b ha hb
theorem u64_or(a b:Nat)(ha:a<18446744073709551616)(hb:b<18446744073709551616):bits .or .u64 (a:Int) (b:Int)=((a|||b:Nat):Int):=bits_or_u64_nat a b ha hb
theorem beq_cast(a b:Nat):((a:Int)==(b:Int))=(a==b):=by rw[Bool.eq_iff_iff,beq_iff_eq,beq_iff_eq];omega
theorem beq_cast0(a:Nat):((a:Int)==0)=(a==0):=by rw[Bool.eq_iff_iff,beq_iff_eq,beq_iff_eq];omega
theorem l3low_any(k:Nat)(w:World)(hk:k<=64):
 Calls Tryz.prog 140 #[.int .i64 (k:Int)] w fun e w'=>e=.returned (.int .u64 (low k:Nat))∧w'=w:=by
 by_cases h64:k=64
 ·subst h64;go_enter Tryz.func140,Tryz.ntmps140;go_wp2;go_ret;exact⟨rfl,rfl⟩
 have hne:¬(k:Int)=64:=by omega
 have HL:Hid (2^k<18446744073709551616):=Nat.pow_lt_pow_right (a:=2) (by omega) (show k<64 by omega);go_enter Tryz.func140,Tryz.ntmps140;go_wp2;go_ret;refine⟨ret_int ?_,rfl⟩;have hlt:=HL.out;have hp:=Nat.two_pow_pos k;have e1:((2:Int)^k)=((2^k:Nat):Int):=by simp
 unfold low;simp only[e1,IntKind.wrap_u64];omega
end Go.Proofs.YtddemlfepjkgoaaGreat
