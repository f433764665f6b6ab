import Derived.Laws.Closers25b
import Derived.Test.YtddemlfepjkgoaaGreatQ02
set_option linter.all false
set_option maxRecDepth 200000
set_option maxHeartbeats 16000000
namespace Go.Proofs.YtddemlfepjkgoaaGreat
open Go.RowKit
theorem lib_len:∀n x:Nat,x<=n->x<18446744073709551616->Lib.bitLen x=lenN x
 |0,x,h,_=>by
  have:x=0:=by omega
  subst this;decide
 |n+1,x,h,hx=>by
  by_cases h0:x=0
  ·subst h0;decide
  rw[Lib.bitLen_half x h0 hx,lib_len n (x/2) (by omega) (by omega)];unfold lenN;by_cases h1:x=1
  ·subst h1;decide
  rw[if_neg h0,if_neg (by omega),Nat.log2_def x,if_pos (by omega)];omega
theorem len_case{x y:Int}(s:Nat)(h0:0<=x)(h1:x<=18446744073709551615)(hy0:0<=y)(hy:y<=255)(e:x.toNat/2^s=y.toNat)(hs:2^s<=x.toNat):Lib.len8 y=(Lib.bitLen x.toNat:Int)-s∧Lib.bitLen y.toNat<=8:=by
 rw[Lib.len8_of y hy0 hy,Lib.bitLen_shift s x.toNat hs (by omega),e];exact⟨by omega,Lib.bitLen_le8' y hy0 hy⟩
theorem len8_bd{y:Int}(hy0:0<=y)(hy:y<=255):0<=Lib.len8 y∧Lib.len8 y<=8:=by
 have:=Lib.bitLen_le8' y hy0 hy;rw[Lib.len8_of y hy0 hy];omega
theorem len64_any(x:Nat)(w:World)(hx:x<18446744073709551616):
 Calls Tryz.prog 123 #[.int .u64 (x:Int)] w fun e w'=>e=.returned (.int .i64 ((lenN x:Nat):Int))∧w'=w:=by
 have HE:Hid (lenN x=Lib.bitLen (x:Int).toNat):=by unfold Hid;rw[Int.toNat_natCast];exact(lib_len x x (Nat.le_refl _) hx).symm
 have h0:0<=(x:Int):=by omega
 have h1:(x:Int)<=18446744073709551615:=by omega
 rw[HE.out];clear HE hx;generalize(x:Int)=y at*;by_cases c3:(4294967296:Int)<=y
 ·by_cases c2:(65536:Int)<=y/4294967296
  ·by_cases c1:(256:Int)<=y/4294967296/65536
   ·have q0:0<=y/4294967296/65536/256:=by omega
    have q1:y/4294967296/65536/256<=255:=by omega
    have HQ:Hid (Lib.len8 (y/4294967296/65536/256)=(Lib.bitLen y.toNat:Int)-56):=(len_case 56 h0 h1 q0 q1 (by omega) (by omega)).1;obtain⟨b0,b1⟩:=len8_bd q0 q1;go_enter Tryz.func123,Tryz.ntmps123;go_wp2;go_ret;refine⟨ret_int ?_,rfl⟩;have:=HQ.out;omega
   have q0:0<=y/4294967296/65536:=by omega
   have q1:y/4294967296/65536<=255:=by omega
   have HQ:Hid (Lib.len8 (y/4294967296/65536)=(Lib.bitLen y.toNat:Int)-48):=(len_case 48 h0 h1 q0 q1 (by omega) (by omega)).1;obtain⟨b0,b1⟩:=len8_bd q0 q1;go_enter Tryz.func123,Tryz.ntmps123;go_wp2;go_ret;refine⟨ret_int ?_,rfl⟩;have:=HQ.out;omega
  by_cases c1:(256:Int)<=y/4294967296
  ·have q0:0<=y/4294967296/256:=by omega
   have q1:y/4294967296/256<=255:=by omega
   have HQ:Hid (Lib.len8 (y/4294967296/256)=(Lib.bitLen y.toNat:Int)-40):=(len_case 40 h0 h1 q0 q1 (by omega) (by omega)).1;obtain⟨b0,b1⟩:=len8_bd q0 q1;go_enter Tryz.func123,Tryz.ntmps123;go_wp2;go_ret;refine⟨ret_int ?_,rfl⟩;have:=HQ.out;omega
  have q0:0<=y/4294967296:=by omega
  have q1:y/4294967296<=255:=by omega
  have HQ:Hid (Lib.len8 (y/4294967296)=(Lib.bitLen y.toNat:Int)-32):=(len_case 32 h0 h1 q0 q1 (by omega) (by omega)).1;obtain⟨b0,b1⟩:=len8_bd q0 q1;go_enter Tryz.func123,Tryz.ntmps123;go_wp2;go_ret;refine⟨ret_int ?_,rfl⟩;have:=HQ.out;omega
 by_cases c2:(65536:Int)<=y
 ·by_cases c1:(256:Int)<=y/65536
  ·have q0:0<=y/65536/256:=by omega
   have q1:y/65536/256<=255:=by omega
   have HQ:Hid (Lib.len8 (y/65536/256)=(Lib.bitLen y.toNat:Int)-24):=(len_case 24 h0 h1 q0 q1 (by omega) (by omega)).1;obtain⟨b0,b1⟩:=len8_bd q0 q1;go_enter Tryz.func123,Tryz.ntmps123;go_wp2;go_ret;refine⟨ret_int ?_,rfl⟩;have:=HQ.out;omega
  have q0:0<=y/65536:=by omega
  have q1:y/65536<=255:=by omega
  have HQ:Hid (Lib.len8 (y/65536)=(Lib.bitLen y.toNat:Int)-16):=(len_case 16 h0 h1 q0 q1 (by omega) (by omega)).1;obtain⟨b0,b1⟩:=len8_bd q0 q1;go_enter Tryz.func123,Tryz.ntmps123;go_wp2;go_ret;refine⟨ret_int ?_,rfl⟩;have:=HQ.out;omega
 by_cases c1:(256:Int)<=y
 ·have q0:0<=y/256:=by omega
  have q1:y/256<=255:=by omega
  have HQ:Hid (Lib.len8 (y/256)=(Lib.bitLen y.toNat:Int)-8):=(len_case 8 h0 h1 q0 q1 (by omega) (by omega)).1;obtain⟨b0,b1⟩:=len8_bd q0 q1;go_enter Tryz.func123,Tryz.ntmps123;go_wp2;go_ret;refine⟨ret_int ?_,rfl⟩;have:=HQ.out;omega
 have q0:0<=y:=by omega
 have q1:y<=255:=by omega
 have HQ:Hid (Lib.len8 (y)=(Lib.bitLen y.toNat:Int)):=Lib.len8_of y q0 q1;obtain⟨b0,b1⟩:=len8_bd q0 q1;go_enter Tryz.func123,Tryz.ntmps123;go_wp2;go_ret;refine⟨ret_int ?_,rfl⟩;have:=HQ.out;omega
theorem conMask_any(a b:Nat)(w:World):
 Calls Tryz.prog 206 #[.agg #[.int .u64 (a:Int),.int .u64 (b:Int)]] w fun e w'=>e=.returned (conV ⟨1,a,b⟩)∧Below w.heap.size w w':=by
 go_enter Tryz.func206,Tryz.ntmps206;go_wp2;refine bodyPost_ret (v:=conV ⟨1,a,b⟩) (by simp[results,Tryz.results206,go_sem]) rfl ⟨rfl,?_⟩;exact((Below.refl _ _).alloc (Nat.le_refl _) _).alloc (by simp) _
theorem conRange_any(a b:Nat)(w:World):
 Calls Tryz.prog 196 #[.agg #[.int .u64 (a:Int),.int .u64 (b:Int)]] w fun e w'=>e=.returned (conV ⟨2,a,b⟩)∧Below w.heap.size w w':=by
 go_enter Tryz.func196,Tryz.ntmps196;go_wp2;refine bodyPost_ret (v:=conV ⟨2,a,b⟩) (by simp[results,Tryz.results196,go_sem]) rfl ⟨rfl,?_⟩;exact((Below.refl _ _).alloc (Nat.le_refl _) _).alloc (by simp) _
theorem conAny_any(w:World):
 Calls Tryz.prog 201 #[.agg #[]] w fun e w'=>e=.returned (conV ⟨0,0,0⟩)∧Below w.heap.size w w':=by
 go_enter Tryz.func201,Tryz.ntmps201;go_wp2;refine bodyPost_ret (v:=conV ⟨0,0,0⟩) (by simp[results,Tryz.results201,go_sem]) rfl ⟨rfl,?_⟩;exact((Below.refl _ _).alloc (Nat.le_refl _) _).alloc (by simp) _
def Meth(c:K)(name:String)(args:Array Value)(r:Value):Prop:=∃T P F,setV c=.iface T P∧(∀w,(method 349 T P name).run Tryz.prog w=.ok (F,P) w)∧(∀(xs:Array Value)(w:World),(callFunc F xs).run Tryz.prog w=.ok (.enter F xs) w)∧
 ∀w,Calls Tryz.prog F (#[P]++args) w fun e w'=>e=.returned r∧Below w.heap.size w w'
theorem meth_con{c:K}(h:Normal c):Meth c "loop.example/s0039/impl.con" #[] (conV c):=by
 rcases h with rfl|⟨a,b,rfl,_⟩|⟨a,b,rfl,_⟩
 ·exact⟨_,_,201,rfl,fun _=>by kernel_rfl,fun _ _=>by kernel_rfl,conAny_any⟩
 ·exact⟨_,_,206,rfl,fun _=>by kernel_rfl,fun _ _=>by kernel_rfl,conMask_any a b⟩
 exact⟨_,_,196,rfl,fun _=>by kernel_rfl,fun _ _=>by kernel_rfl,conRange_any a b⟩
theorem shl_ones{n:Nat}(h:n<=64):IntKind.u64.wrap (18446744073709551615*2^n)=((inv (low n):Nat):Int):=by
 have h1:=low_succ n;have h2:=low_le h;have e:((2:Int)^n)=((2^n:Nat):Int):=by simp
 rw[IntKind.wrap_u64,e];unfold inv;omega
abbrev two(a b:Nat):Value:=.tuple #[.int .u64 (a:Int),.int .u64 (b:Int)]
theorem agreedAny(w:World):Calls Tryz.prog 199 #[.agg #[]] w fun e w'=>e=.returned (two 0 0)∧Below w.heap.size w w':=by
 have B:Below w.heap.size w (w.alloc (.cells #[] 149)):=(Below.refl _ _).alloc (Nat.le_refl _) _;go_enter Tryz.func199,Tryz.ntmps199;go_wp2;go_ret2;exact⟨rfl,B⟩
theorem agreedMask(a b:Nat)(w:World):Calls Tryz.prog 204 #[.agg #[.int .u64 (a:Int),.int .u64 (b:Int)]] w fun e w'=>e=.returned (two a b)∧Below w.heap.size w w':=by
 have B:Below w.heap.size w (w.alloc (.cells #[.int .u64 (a:Int),.int .u64 (b:Int)] 151)):=(Below.refl _ _).alloc (Nat.le_refl _) _;go_enter Tryz.func204,Tryz.ntmps204;go_wp2_with fail;go_quiet(fail);go_wp2;go_ret2;exact⟨rfl,by first|exact B.drew|exact below_drewN B _⟩
theorem agreedRange(a b:Nat)(w:World)(ha:a<18446744073709551616)(hb:b<18446744073709551616):
 Calls Tryz.prog 194 #[.agg #[.int .u64 (a:Int),.int .u64 (b:Int)]] w fun e w'=>e=.returned (two (inv (low (lenN (a^^^b)))) (a&&&inv (low (lenN (a^^^b)))))∧Below w.heap.size w w':=by
 have B:Below w.heap.size w (w.alloc (.cells #[.int .u64 (a:Int),.int .u64 (b:Int)] 147)):=(Below.refl _ _).alloc (Nat.le_refl _) _;have hx:=xor_lt ha hb;have e1:=u64_xor a b ha hb;have HL:Hid (∀w,Calls Tryz.prog 123 #[.int .u64 ((a^^^b:Nat):Int)] w fun e w'=>e=.returned (.int .i64 ((lenN (a^^^b):Nat):Int))∧w'=w):=fun w=>len64_any _ w hx
 have hn:=lenN_le hx;have HS:Hid (IntKind.u64.wrap (18446744073709551615*2^lenN (a^^^b))=((inv (low (lenN (a^^^b))):Nat):Int)):=shl_ones hn;have HA:Hid (bits .and .u64 (a:Int) ((inv (low (lenN (a^^^b))):Nat):Int)=((a&&&inv (low (lenN (a^^^b))):Nat):Int)):=u64_and a _ ha (inv_lt _);have hi:=inv_lt (low (lenN (a^^^b)));generalize inv (low (lenN (a^^^b)))=I at*;generalize a&&&I=J at*;generalize lenN (a^^^b)=n at*;generalize a^^^b=x at*;go_enter Tryz.func194,Tryz.ntmps194;go_wp2_with fail;refine(HL.out _).mono ?_;rintro e w1⟨rfl,rfl⟩;go_wp2_with fail;rw[HS.out];go_quiet(fail);go_wp2;rw[HA.out];go_ret2;exact⟨rfl,by first|exact B.drew|exact below_drewN B _⟩
theorem boundsAny(w:World):Calls Tryz.prog 200 #[.agg #[]] w fun e w'=>e=.returned (two 0 18446744073709551615)∧Below w.heap.size w w':=by
 have B:Below w.heap.size w (w.alloc (.cells #[] 149)):=(Below.refl _ _).alloc (Nat.le_refl _) _;go_enter Tryz.func200,Tryz.ntmps200;go_wp2;go_ret2;exact⟨rfl,B⟩
theorem boundsMask(a b:Nat)(w:World)(ha:a<18446744073709551616)(hb:b<18446744073709551616):
 Calls Tryz.prog 205 #[.agg #[.int .u64 (a:Int),.int .u64 (b:Int)]] w fun e w'=>e=.returned (two b (b|||inv a))∧Below w.heap.size w w':=by
 have B:Below w.heap.size w (w.alloc (.cells #[.int .u64 (a:Int),.int .u64 (b:Int)] 151)):=(Below.refl _ _).alloc (Nat.le_refl _) _;have HB:Hid (bits .or .u64 (b:Int) (bits .xor .u64 IntKind.u64.max (a:Int))=((b|||inv a:Nat):Int)):=by
  unfold Hid;rw[u64_not a ha];exact u64_or b _ hb (inv_lt _)
 generalize b|||inv a=J at*;go_enter Tryz.func205,Tryz.ntmps205;go_wp2_with fail;go_quiet(fail);go_wp2;rw[HB.out];go_ret2;exact⟨rfl,by first|exact B.drew|exact below_drewN B _⟩
theorem boundsRange(a b:Nat)(w:World):Calls Tryz.prog 195 #[.agg #[.int .u64 (a:Int),.int .u64 (b:Int)]] w fun e w'=>e=.returned (two a b)∧Below w.heap.size w w':=by
 have B:Below w.heap.size w (w.alloc (.cells #[.int .u64 (a:Int),.int .u64 (b:Int)] 147)):=(Below.refl _ _).alloc (Nat.le_refl _) _;go_enter Tryz.func195,Tryz.ntmps195;go_wp2_with fail;go_quiet(fail);go_wp2;go_ret2;exact⟨rfl,by first|exact B.drew|exact below_drewN B _⟩
theorem holdsAny(v:Nat)(w:World):Calls Tryz.prog 202 #[.agg #[],.int .u64 (v:Int)] w fun e w'=>e=.returned (.bool true)∧Below w.heap.size w w':=by
 have B:Below w.heap.size w (w.alloc (.cells #[] 149)):=(Below.refl _ _).alloc (Nat.le_refl _) _;go_enter Tryz.func202,Tryz.ntmps202;go_wp2;go_ret;exact⟨rfl,B⟩
theorem holdsMask(a b v:Nat)(w:World)(ha:a<18446744073709551616)(hv:v<18446744073709551616):
 Calls Tryz.prog 207 #[.agg #[.int .u64 (a:Int),.int .u64 (b:Int)],.int .u64 (v:Int)] w fun e w'=>e=.returned (.bool (v&&&a==b))∧Below w.heap.size w w':=by
 have B:Below w.heap.size w (w.alloc (.cells #[.int .u64 (a:Int),.int .u64 (b:Int)] 151)):=(Below.refl _ _).alloc (Nat.le_refl _) _;have HB:Hid (bits .and .u64 (v:Int) (a:Int)=((v&&&a:Nat):Int)):=u64_and v a hv ha;go_enter Tryz.func207,Tryz.ntmps207;go_wp2;go_ret;refine⟨?_,B⟩;rw[HB.out,beq_cast];rfl
theorem holdsRange(a b v:Nat)(w:World):
 Calls Tryz.prog 197 #[.agg #[.int .u64 (a:Int),.int .u64 (b:Int)],.int .u64 (v:Int)] w fun e w'=>e=.returned (.bool (decide (a<=v)&&decide (v<=b)))∧Below w.heap.size w w':=by
 have B:Below w.heap.size w (w.alloc (.cells #[.int .u64 (a:Int),.int .u64 (b:Int)] 147)):=(Below.refl _ _).alloc (Nat.le_refl _) _;obtain⟨R,hR⟩:∃R,(decide (a<=v)&&decide (v<=b))=R:=⟨_,rfl⟩;have HR:Hid ((decide (a<=v)&&decide (v<=b))=R):=hR;rw[hR];clear hR;by_cases h1:a<=v
 ·have h1':(a:Int)<=(v:Int):=by omega
  by_cases h2:v<=b
  ·have h2':(v:Int)<=(b:Int):=by omega
   have hR:R=true:=by rw[<-HR.out];simp[h1,h2]
   subst hR;go_enter Tryz.func197,Tryz.ntmps197;go_wp2;go_ret;exact⟨by simp,B⟩
  have h2':¬(v:Int)<=(b:Int):=by omega
  have hR:R=false:=by rw[<-HR.out];simp[h2]
  subst hR;go_enter Tryz.func197,Tryz.ntmps197;go_wp2;go_ret;exact⟨by simp,B⟩
 have h1':¬(a:Int)<=(v:Int):=by omega
 have hR:R=false:=by rw[<-HR.out];simp[h1]
 subst hR;go_enter Tryz.func197,Tryz.ntmps197;go_wp2;go_ret;exact⟨by simp,B⟩
theorem meth_agreed{c:K}(h:Normal c):Meth c "loop.example/s0039/impl.agreed" #[] (two (agreeM c) (agreeV c)):=by
 have ho:=h.ok;rcases h with rfl|⟨a,b,rfl,_⟩|⟨a,b,rfl,_⟩
 ·exact⟨_,_,199,rfl,fun _=>by kernel_rfl,fun _ _=>by kernel_rfl,agreedAny⟩
 ·exact⟨_,_,204,rfl,fun _=>by kernel_rfl,fun _ _=>by kernel_rfl,agreedMask a b⟩
 exact⟨_,_,194,rfl,fun _=>by kernel_rfl,fun _ _=>by kernel_rfl,fun w=>agreedRange a b w ho.2.1 ho.2.2⟩
theorem meth_bounds{c:K}(h:Normal c):Meth c "loop.example/s0039/impl.bounds" #[] (two (lowK c) (highK c)):=by
 have ho:=h.ok;rcases h with rfl|⟨a,b,rfl,_⟩|⟨a,b,rfl,_⟩
 ·exact⟨_,_,200,rfl,fun _=>by kernel_rfl,fun _ _=>by kernel_rfl,boundsAny⟩
 ·exact⟨_,_,205,rfl,fun _=>by kernel_rfl,fun _ _=>by kernel_rfl,fun w=>boundsMask a b w ho.2.1 ho.2.2⟩
 exact⟨_,_,195,rfl,fun _=>by kernel_rfl,fun _ _=>by kernel_rfl,boundsRange a b⟩
theorem meth_holds{c:K}(h:Normal c){v:Nat}(hv:v<18446744073709551616):Meth c "loop.example/s0039/impl.holds" #[.int .u64 (v:Int)] (.bool (holdsK c v)):=by
 have ho:=h.ok;rcases h with rfl|⟨a,b,rfl,_⟩|⟨a,b,rfl,_⟩
 ·exact⟨_,_,202,rfl,fun _=>by kernel_rfl,fun _ _=>by kernel_rfl,holdsAny v⟩
 ·exact⟨_,_,207,rfl,fun _=>by kernel_rfl,fun _ _=>by kernel_rfl,fun w=>holdsMask a b v w ho.2.1 hv⟩
 exact⟨_,_,197,rfl,fun _=>by kernel_rfl,fun _ _=>by kernel_rfl,holdsRange a b v⟩
theorem agree_lt{c:K}(h:c.ok):agreeM c<18446744073709551616∧agreeV c<18446744073709551616:=by
 unfold agreeM agreeV;constructor
 ·split
  ·exact h.2.1
  split
  ·exact inv_lt _
  omega
 split
 ·exact h.2.2
 split
 ·exact and_lt h.2.1
 omega
theorem ta_mask(a b:Int)(w:World):(Instr.typeAssert (.iface 151 (.agg #[.int .u64 a,.int .u64 b])) 100 151 true).run Tryz.prog w=.ok (.tuple #[.agg #[.int .u64 a,.int .u64 b],.bool true]) w:=by kernel_rfl
theorem ta_range(a b:Int)(w:World):(Instr.typeAssert (.iface 147 (.agg #[.int .u64 a,.int .u64 b])) 100 147 true).run Tryz.prog w=.ok (.tuple #[.agg #[.int .u64 a,.int .u64 b],.bool true]) w:=by kernel_rfl
theorem ta_range_mask(a b:Int)(w:World):(Instr.typeAssert (.iface 147 (.agg #[.int .u64 a,.int .u64 b])) 100 151 true).run Tryz.prog w=.ok (.tuple #[.agg #[.int .u64 0,.int .u64 0],.bool false]) w:=by kernel_rfl
theorem ta_any_mask(w:World):(Instr.typeAssert (.iface 149 (.agg #[])) 100 151 true).run Tryz.prog w=.ok (.tuple #[.agg #[.int .u64 0,.int .u64 0],.bool false]) w:=by kernel_rfl
theorem ta_any_range(w:World):(Instr.typeAssert (.iface 149 (.agg #[])) 100 147 true).run Tryz.prog w=.ok (.tuple #[.agg #[.int .u64 0,.int .u64 0],.bool false]) w:=by kernel_rfl
theorem cells2{w w1:World}{g:Nat}{x y:Value}(hb:Below w.heap.size w w1)(hg:g<w.heap.size)(h0:w.cell? ⟨g,0,none⟩=some x)(h1:w.cell? ⟨g,1,none⟩=some y):w1.cell? ⟨g,0,none⟩=some x∧w1.cell? ⟨g,1,none⟩=some y:=
 ⟨(hb.cell (p:=⟨g,0,none⟩) hg).trans h0,(hb.cell (p:=⟨g,1,none⟩) hg).trans h1⟩
theorem isWithin_any(c d:K)(w:World)(hc:Normal c)(hd:Normal d):
 Calls Tryz.prog 137 #[setV c,setV d] w fun e w'=>e=.returned (.bool (withinI c d))∧Below w.heap.size w w':=by
 rcases hd with rfl|⟨m,v,rfl,h0,hm,h⟩|⟨l,h,rfl,hlh,hh,h2⟩
 ·have HE:Hid (setV ⟨0,0,0⟩=.iface 149 (.agg #[])):=rfl;have HW:Hid (withinI c ⟨0,0,0⟩=true):=rfl;rw[HE.out,HW.out];clear HE HW;generalize setV c=S;have t1:=ta_any_mask;have t2:=ta_any_range;go_enter Tryz.func137,Tryz.ntmps137;go_wp2;go_ret;exact⟨rfl,Below.refl _ _⟩
 ·have HE:Hid (setV ⟨1,m,v⟩=.iface 151 (.agg #[.int .u64 (m:Int),.int .u64 (v:Int)])):=rfl;have HW:Hid (withinI c ⟨1,m,v⟩=((agreeM c&&&m==m)&&(agreeV c&&&m==v))):=rfl;rw[HE.out,HW.out];obtain⟨T,P,F,e1,e2,e4,e3⟩:=meth_agreed hc;have HF:Hid (∀w,Calls Tryz.prog F #[P] w fun e w'=>e=.returned (two (agreeM c) (agreeV c))∧Below w.heap.size w w'):=e3;have hag:=agree_lt hc.ok;rw[e1];clear HE HW e1 e3 hc h;generalize agreeM c=A at*;generalize agreeV c=D at*;have HB:Hid (bits .and .u64 (D:Int) (m:Int)=((D&&&m:Nat):Int)):=u64_and D m hag.2 hm;have HA:Hid (bits .and .u64 (A:Int) (m:Int)=((A&&&m:Nat):Int)):=u64_and A m hag.1 hm;have t1:=ta_mask (m:Int) (v:Int);have hsz:w.heap.size<(w.alloc (.cells #[.int .u64 (m:Int),.int .u64 (v:Int)] 151)).heap.size:=by simp
  have x0:(w.alloc (.cells #[.int .u64 (m:Int),.int .u64 (v:Int)] 151)).cell? ⟨w.heap.size,0,none⟩=some (.int .u64 (m:Int)):=by simp
  have x1:(w.alloc (.cells #[.int .u64 (m:Int),.int .u64 (v:Int)] 151)).cell? ⟨w.heap.size,1,none⟩=some (.int .u64 (v:Int)):=by simp
  have B0:Below w.heap.size w (w.alloc (.cells #[.int .u64 (m:Int),.int .u64 (v:Int)] 151)):=(Below.refl _ _).alloc (Nat.le_refl _) _;have HX:Hid (∀w1,Below (w.alloc (.cells #[.int .u64 (m:Int),.int .u64 (v:Int)] 151)).heap.size (w.alloc (.cells #[.int .u64 (m:Int),.int .u64 (v:Int)] 151)) w1->(w1.cell? ⟨w.heap.size,0,none⟩=some (.int .u64 (m:Int))∧w1.cell? ⟨w.heap.size,1,none⟩=some (.int .u64 (v:Int)))∧Below w.heap.size w w1):=
   fun w1 hb=>⟨cells2 hb hsz x0 x1,B0.trans (hb.mono B0.size)⟩
  clear hsz x0 x1 B0;by_cases g1:A&&&m=m
  ·have g1':(bits .and .u64 (A:Int) (m:Int)==(m:Int))=true:=by rw[HA.out,beq_cast,g1];simp
   have HR:Hid (((A&&&m==m)&&(D&&&m==v))=(D&&&m==v)):=by simp[Hid,g1]
   rw[HR.out];clear HA g1 HR;go_enter Tryz.func137,Tryz.ntmps137;go_wp2_with fail;refine(HF.out _).mono ?_;rintro e w1⟨rfl,hb1⟩;obtain⟨⟨y0,y1⟩,B1⟩:=HX.out w1 hb1;clear hb1 HX;go_wp2;go_ret;refine⟨?_,B1⟩;rw[HB.out,beq_cast];rfl
  have g1':(bits .and .u64 (A:Int) (m:Int)==(m:Int))=false:=by rw[HA.out,beq_cast,beq_eq_false_iff_ne];exact g1
  have HR:Hid (((A&&&m==m)&&(D&&&m==v))=false):=by simp[Hid,g1]
  rw[HR.out];clear HA g1 HR;go_enter Tryz.func137,Tryz.ntmps137;go_wp2_with fail;refine(HF.out _).mono ?_;rintro e w1⟨rfl,hb1⟩;obtain⟨⟨y0,y1⟩,B1⟩:=HX.out w1 hb1;clear hb1 HX;go_wp2;go_ret;exact⟨rfl,B1⟩
 have HE:Hid (setV ⟨2,l,h⟩=.iface 147 (.agg #[.int .u64 (l:Int),.int .u64 (h:Int)])):=rfl;have HW:Hid (withinI c ⟨2,l,h⟩=(decide (l<=lowK c)&&decide (highK c<=h))):=rfl;rw[HE.out,HW.out];obtain⟨T,P,F,e1,e2,e4,e3⟩:=meth_bounds hc;have HF:Hid (∀w,Calls Tryz.prog F #[P] w fun e w'=>e=.returned (two (lowK c) (highK c))∧Below w.heap.size w w'):=e3;rw[e1];clear HE HW e1 e3 hc h2;generalize lowK c=A at*;generalize highK c=D at*;have t1:=ta_range_mask (l:Int) (h:Int);have t2:=ta_range (l:Int) (h:Int);have hsz:w.heap.size<(w.alloc (.cells #[.int .u64 (l:Int),.int .u64 (h:Int)] 147)).heap.size:=by simp
 have x0:(w.alloc (.cells #[.int .u64 (l:Int),.int .u64 (h:Int)] 147)).cell? ⟨w.heap.size,0,none⟩=some (.int .u64 (l:Int)):=by simp
 have x1:(w.alloc (.cells #[.int .u64 (l:Int),.int .u64 (h:Int)] 147)).cell? ⟨w.heap.size,1,none⟩=some (.int .u64 (h:Int)):=by simp
 have B0:Below w.heap.size w (w.alloc (.cells #[.int .u64 (l:Int),.int .u64 (h:Int)] 147)):=(Below.refl _ _).alloc (Nat.le_refl _) _;have HX:Hid (∀w1,Below (w.alloc (.cells #[.int .u64 (l:Int),.int .u64 (h:Int)] 147)).heap.size (w.alloc (.cells #[.int .u64 (l:Int),.int .u64 (h:Int)] 147)) w1->(w1.cell? ⟨w.heap.size,0,none⟩=some (.int .u64 (l:Int))∧w1.cell? ⟨w.heap.size,1,none⟩=some (.int .u64 (h:Int)))∧Below w.heap.size w w1):=
  fun w1 hb=>⟨cells2 hb hsz x0 x1,B0.trans (hb.mono B0.size)⟩
 clear hsz x0 x1 B0;by_cases g1:l<=A
 ·have g1':(l:Int)<=(A:Int):=by omega
  have HR:Hid ((decide (l<=A)&&decide (D<=h))=decide (D<=h)):=by simp[Hid,g1]
  rw[HR.out];clear g1 HR;go_enter Tryz.func137,Tryz.ntmps137;go_wp2_with fail;refine(HF.out _).mono ?_;rintro e w1⟨rfl,hb1⟩;obtain⟨⟨y0,y1⟩,B1⟩:=HX.out w1 hb1;clear hb1 HX;go_wp2;go_ret;exact⟨by simp,B1⟩
 have g1':¬(l:Int)<=(A:Int):=by omega
 have HR:Hid ((decide (l<=A)&&decide (D<=h))=false):=by simp[Hid,g1]
 rw[HR.out];clear g1 HR;go_enter Tryz.func137,Tryz.ntmps137;go_wp2_with fail;refine(HF.out _).mono ?_;rintro e w1⟨rfl,hb1⟩;obtain⟨⟨y0,y1⟩,B1⟩:=HX.out w1 hb1;clear hb1 HX;go_wp2;go_ret;exact⟨by simp,B1⟩
theorem below_step{w wa wb:World}(hb:Below wa.heap.size wa wb)(h:Below w.heap.size w wa):Below w.heap.size w wb:=h.trans (hb.mono h.size)
theorem cell_ltK{w:World}{a:Addr}{v:Value}(h:w.cell? a=some v):a.block<w.heap.size:=by
 by_cases hb:a.block<w.heap.size
 ·exact hb
 exfalso;simp[World.cell?,Array.getElem?_eq_none (show w.heap.size<=a.block by omega)]at h
theorem cell_step{wa wb:World}(hb:Below wa.heap.size wa wb){p:Addr}{v:Value}(h:wa.cell? p=some v):wb.cell? p=some v:=(hb.cell (cell_ltK h)).trans h
end Go.Proofs.YtddemlfepjkgoaaGreat
namespace Go.Proofs.YtddemlfepjkgoaaGreat
def littleL:Int->Nat->List Int
 |_,0=>[]
 |v,n+1=>v%256::littleL (v/256) n
theorem littleL_len(v:Int)(n:Nat):(littleL v n).length=n:=by
 induction n generalizing v with
 |zero=>rfl
 |succ n ih=>simp[littleL,ih]
def encI(x:I):List Int:=littleL x.c 2++[x.jt]++[x.jf]++littleL x.k 4
theorem encI_len(x:I):(encI x).length=8:=by simp[encI,littleL_len]
def isBytes(l:List Int):Prop:=∀x∈l,0<=x∧x<=255
theorem isBytes_getD{l:List Int}(h:isBytes l)(i:Nat):0<=l.getD i 0∧l.getD i 0<=255:=by
 by_cases hi:i<l.length
 ·rw[List.getD_eq_getElem?_getD,List.getElem?_eq_getElem hi];exact h _ (List.getElem_mem hi)
 rw[List.getD_eq_getElem?_getD,List.getElem?_eq_none (by omega)];simp
def halfI(h:Int):Int:=if h%2=1 then bits .xor .u32 (h/2) 3988292384 else h/2
def halfN:Nat->Int->Int
 |0,h=>h
 |n+1,h=>halfN n (halfI h)
def sumF:Int->List Int->Int
 |h,[]=>h
 |h,b::r=>sumF (halfN 8 (bits .xor .u32 h b)) r
def sumL(l:List Int):Int:=bits .xor .u32 (sumF 4294967295 l) 4294967295
structure C where
 arch:Int
 nr:Int
 args:List Int
def isU64(v:Int):Prop:=0<=v∧v<=18446744073709551615
def C.ok(x:C):Prop:=0<=x.arch∧x.arch<=4294967295∧0<=x.nr∧x.nr<=4294967295∧∀v∈x.args,isU64 v
def C.zero:C:=⟨0,0,[]⟩
theorem C.zero_ok:C.zero.ok:=⟨by decide,by decide,by decide,by decide,fun v h=>by simp[C.zero]at h⟩
def six(c:C):Bool:=c.args.length==6
end Go.Proofs.YtddemlfepjkgoaaGreat
