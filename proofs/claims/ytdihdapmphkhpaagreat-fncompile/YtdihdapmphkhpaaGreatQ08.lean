import Derived.Deep.Onto
import Derived.Test.YtdihdapmphkhpaaGreatQ07
set_option linter.all false
set_option maxRecDepth 200000
set_option maxHeartbeats 16000000
namespace Go.Proofs.YtdihdapmphkhpaaGreat
open Go.RowKit
variable{c:K}{k:Nat}{w:World}{α:Type}
theorem Gt{n:Nat}(h:n<=64):IntKind.u64.wrap (18446744073709551615*2^n)=((inv (low n):Nat):Int):=by
 have h1:=iM n;have h2:=lU h;have e:((2:Int)^n)=((2^n:Nat):Int):=by simp
 rw[aS,e];unfold inv;omega
abbrev two(a b:Nat):Value:=.tuple #[.int .u64 (a:Int),.int .u64 (b:Int)]
theorem DV(w:World):Calls Tryz.prog 186 #[.agg #[]] w fun e w'=>e=.returned (two 0 0)∧Below w.heap.size w w':=by
 have B:Below w.heap.size w (w.alloc (.cells #[] 186)):=(af _ _).alloc (ae _) _;go_enter Tryz.func186,Tryz.ntmps186;go_wp2;go_ret2;exact⟨rfl,B⟩
theorem Cr(a b:Nat)(w:World):Calls Tryz.prog 191 #[.agg #[.int .u64 (a:Int),.int .u64 (b:Int)]] w fun e w'=>e=.returned (two a b)∧Below w.heap.size w w':=by
 have B:Below w.heap.size w (w.alloc (.cells #[.int .u64 (a:Int),.int .u64 (b:Int)] 202)):=(af _ _).alloc (ae _) _;go_enter Tryz.func191,Tryz.ntmps191;go_wp2_with fail;go_quiet(fail);go_wp2;go_ret2;exact⟨rfl,by first|exact B.drew|exact below_drewN B _⟩
theorem AH(a b:Nat)(w:World)(ha:a<18446744073709551616)(hb:b<18446744073709551616):
 Calls Tryz.prog 196 #[.agg #[.int .u64 (a:Int),.int .u64 (b:Int)]] w fun e w'=>e=.returned (two (inv (low (jo (a^^^b)))) (a&&&inv (low (jo (a^^^b)))))∧Below w.heap.size w w':=by
 have B:Below w.heap.size w (w.alloc (.cells #[.int .u64 (a:Int),.int .u64 (b:Int)] 205)):=(af _ _).alloc (ae _) _;have hx:=mj ha hb;have e1:=u64_xor a b ha hb;have HL:Hid (∀w,Calls Tryz.prog 152 #[.int .u64 ((a^^^b:Nat):Int)] w fun e w'=>e=.returned (.int .i64 ((jo (a^^^b):Nat):Int))∧w'=w):=fun w=>Dp _ w hx
 have hn:=Dg hx;have HS:Hid (IntKind.u64.wrap (18446744073709551615*2^jo (a^^^b))=((inv (low (jo (a^^^b))):Nat):Int)):=Gt hn;have HA:Hid (bits .and .u64 (a:Int) ((inv (low (jo (a^^^b))):Nat):Int)=((a&&&inv (low (jo (a^^^b))):Nat):Int)):=u64_and a _ ha (jX _);have hi:=jX (low (jo (a^^^b)));generalize inv (low (jo (a^^^b)))=I at*;generalize a&&&I=J at*;generalize jo (a^^^b)=n at*;generalize a^^^b=x at*;go_enter Tryz.func196,Tryz.ntmps196;go_wp2_with fail;refine(HL.out _).mono ?_;rintro e w1⟨rfl,rfl⟩;go_wp2_with fail;rw[HS.out];go_quiet(fail);go_wp2;rw[HA.out];go_ret2;exact⟨rfl,by first|exact B.drew|exact below_drewN B _⟩
theorem Et(w:World):Calls Tryz.prog 187 #[.agg #[]] w fun e w'=>e=.returned (two 0 18446744073709551615)∧Below w.heap.size w w':=by
 have B:Below w.heap.size w (w.alloc (.cells #[] 186)):=(af _ _).alloc (ae _) _;go_enter Tryz.func187,Tryz.ntmps187;go_wp2;go_ret2;exact⟨rfl,B⟩
theorem BY(a b:Nat)(w:World)(ha:a<18446744073709551616)(hb:b<18446744073709551616):
 Calls Tryz.prog 192 #[.agg #[.int .u64 (a:Int),.int .u64 (b:Int)]] w fun e w'=>e=.returned (two b (b|||inv a))∧Below w.heap.size w w':=by
 have B:Below w.heap.size w (w.alloc (.cells #[.int .u64 (a:Int),.int .u64 (b:Int)] 202)):=(af _ _).alloc (ae _) _;have HB:Hid (bits .or .u64 (b:Int) (bits .xor .u64 IntKind.u64.max (a:Int))=((b|||inv a:Nat):Int)):=by
  unfold Hid;rw[yG a ha];exact u64_or b _ hb (jX _)
 generalize b|||inv a=J at*;go_enter Tryz.func192,Tryz.ntmps192;go_wp2_with fail;go_quiet(fail);go_wp2;rw[HB.out];go_ret2;exact⟨rfl,by first|exact B.drew|exact below_drewN B _⟩
theorem zn(a b:Nat)(w:World):Calls Tryz.prog 197 #[.agg #[.int .u64 (a:Int),.int .u64 (b:Int)]] w fun e w'=>e=.returned (two a b)∧Below w.heap.size w w':=by
 have B:Below w.heap.size w (w.alloc (.cells #[.int .u64 (a:Int),.int .u64 (b:Int)] 205)):=(af _ _).alloc (ae _) _;go_enter Tryz.func197,Tryz.ntmps197;go_wp2_with fail;go_quiet(fail);go_wp2;go_ret2;exact⟨rfl,by first|exact B.drew|exact below_drewN B _⟩
theorem zB(h:fZ c):Meth c "loop.example/s0039/impl.agreed" #[] (two (pI c) (pL c)):=by
 have ho:=h.ok;rcases h with rfl|⟨a,b,rfl,_⟩|⟨a,b,rfl,_⟩
 ·exact⟨_,_,186,rfl,fun _=>by kernel_rfl,fun _ _=>by kernel_rfl,DV⟩
 ·exact⟨_,_,191,rfl,fun _=>by kernel_rfl,fun _ _=>by kernel_rfl,Cr a b⟩
 exact⟨_,_,196,rfl,fun _=>by kernel_rfl,fun _ _=>by kernel_rfl,fun w=>AH a b w ho.2.1 ho.2.2⟩
theorem oR(h:fZ c):Meth c "loop.example/s0039/impl.bounds" #[] (two (jd c) (gD c)):=by
 have ho:=h.ok;rcases h with rfl|⟨a,b,rfl,_⟩|⟨a,b,rfl,_⟩
 ·exact⟨_,_,187,rfl,fun _=>by kernel_rfl,fun _ _=>by kernel_rfl,Et⟩
 ·exact⟨_,_,192,rfl,fun _=>by kernel_rfl,fun _ _=>by kernel_rfl,fun w=>BY a b w ho.2.1 ho.2.2⟩
 exact⟨_,_,197,rfl,fun _=>by kernel_rfl,fun _ _=>by kernel_rfl,zn a b⟩
theorem Fs(h:c.ok):pI c<18446744073709551616∧pL c<18446744073709551616:=by
 unfold pI pL;constructor
 ·split
  ·exact h.2.1
  split
  ·exact jX _
  omega
 split
 ·exact h.2.2
 split
 ·exact sx h.2.1
 omega
theorem qk(a b:Int)(w:World):(Instr.typeAssert (.iface 202 (.agg #[.int .u64 a,.int .u64 b])) 115 202 true).run Tryz.prog w=.ok (.tuple #[.agg #[.int .u64 a,.int .u64 b],.bool true]) w:=by kernel_rfl
theorem E5(a b:Int)(w:World):(Instr.typeAssert (.iface 205 (.agg #[.int .u64 a,.int .u64 b])) 115 205 true).run Tryz.prog w=.ok (.tuple #[.agg #[.int .u64 a,.int .u64 b],.bool true]) w:=by kernel_rfl
theorem mU(a b:Int)(w:World):(Instr.typeAssert (.iface 205 (.agg #[.int .u64 a,.int .u64 b])) 115 202 true).run Tryz.prog w=.ok (.tuple #[.agg #[.int .u64 0,.int .u64 0],.bool false]) w:=by kernel_rfl
theorem oS(w:World):(Instr.typeAssert (.iface 186 (.agg #[])) 115 202 true).run Tryz.prog w=.ok (.tuple #[.agg #[.int .u64 0,.int .u64 0],.bool false]) w:=by kernel_rfl
theorem yi(w:World):(Instr.typeAssert (.iface 186 (.agg #[])) 115 205 true).run Tryz.prog w=.ok (.tuple #[.agg #[.int .u64 0,.int .u64 0],.bool false]) w:=by kernel_rfl
theorem Gb{w1:World}{g:Nat}{x y:Value}(hb:Below w.heap.size w w1)(hg:g<w.heap.size)(h0:w.cell? ⟨g,0,none⟩=some x)(h1:w.cell? ⟨g,1,none⟩=some y):w1.cell? ⟨g,0,none⟩=some x∧w1.cell? ⟨g,1,none⟩=some y:=
 ⟨(hb.cell (p:=⟨g,0,none⟩) hg).trans h0,(hb.cell (p:=⟨g,1,none⟩) hg).trans h1⟩
theorem yn(c d:K)(w:World)(hc:fZ c)(hd:fZ d):
 Calls Tryz.prog 134 #[gh c,gh d] w fun e w'=>e=.returned (.bool (fU c d))∧Below w.heap.size w w':=by
 rcases hd with rfl|⟨m,v,rfl,h0,hm,h⟩|⟨l,h,rfl,hlh,hh,h2⟩
 ·have HE:Hid (gh ⟨0,0,0⟩=.iface 186 (.agg #[])):=rfl;have HW:Hid (fU c ⟨0,0,0⟩=true):=rfl;rw[HE.out,HW.out];clear HE HW;generalize gh c=S;have t1:=oS;have t2:=yi;go_enter Tryz.func134,Tryz.ntmps134;go_wp2;go_ret;exact⟨rfl,af _ _⟩
 ·have HE:Hid (gh ⟨1,m,v⟩=.iface 202 (.agg #[.int .u64 (m:Int),.int .u64 (v:Int)])):=rfl;have HW:Hid (fU c ⟨1,m,v⟩=((pI c&&&m==m)&&(pL c&&&m==v))):=rfl;rw[HE.out,HW.out];obtain⟨T,P,F,e1,e2,e4,e3⟩:=zB hc;have HF:Hid (∀w,Calls Tryz.prog F #[P] w fun e w'=>e=.returned (two (pI c) (pL c))∧Below w.heap.size w w'):=e3;have hag:=Fs hc.ok;rw[e1];clear HE HW e1 e3 hc h;generalize pI c=A at*;generalize pL c=D at*;have HB:Hid (bits .and .u64 (D:Int) (m:Int)=((D&&&m:Nat):Int)):=u64_and D m hag.2 hm;have HA:Hid (bits .and .u64 (A:Int) (m:Int)=((A&&&m:Nat):Int)):=u64_and A m hag.1 hm;have t1:=qk (m:Int) (v:Int);have hsz:w.heap.size<(w.alloc (.cells #[.int .u64 (m:Int),.int .u64 (v:Int)] 202)).heap.size:=by simp
  have x0:(w.alloc (.cells #[.int .u64 (m:Int),.int .u64 (v:Int)] 202)).cell? ⟨w.heap.size,0,none⟩=some (.int .u64 (m:Int)):=by simp
  have x1:(w.alloc (.cells #[.int .u64 (m:Int),.int .u64 (v:Int)] 202)).cell? ⟨w.heap.size,1,none⟩=some (.int .u64 (v:Int)):=by simp
  have B0:Below w.heap.size w (w.alloc (.cells #[.int .u64 (m:Int),.int .u64 (v:Int)] 202)):=(af _ _).alloc (ae _) _;have HX:Hid (∀w1,Below (w.alloc (.cells #[.int .u64 (m:Int),.int .u64 (v:Int)] 202)).heap.size (w.alloc (.cells #[.int .u64 (m:Int),.int .u64 (v:Int)] 202)) w1->(w1.cell? ⟨w.heap.size,0,none⟩=some (.int .u64 (m:Int))∧w1.cell? ⟨w.heap.size,1,none⟩=some (.int .u64 (v:Int)))∧Below w.heap.size w w1):=
   fun w1 hb=>⟨Gb hb hsz x0 x1,B0.trans (hb.mono B0.size)⟩
  clear hsz x0 x1 B0;by_cases g1:A&&&m=m
  ·have g1':(bits .and .u64 (A:Int) (m:Int)==(m:Int))=true:=by rw[HA.out,pg,g1];simp
   have HR:Hid (((A&&&m==m)&&(D&&&m==v))=(D&&&m==v)):=by simp[Hid,g1]
   rw[HR.out];clear HA g1 HR;go_enter Tryz.func134,Tryz.ntmps134;go_wp2_with fail;refine(HF.out _).mono ?_;rintro e w1⟨rfl,hb1⟩;obtain⟨⟨y0,y1⟩,B1⟩:=HX.out w1 hb1;clear hb1 HX;go_wp2;go_ret;refine⟨?_,B1⟩;rw[HB.out,pg];rfl
  have g1':(bits .and .u64 (A:Int) (m:Int)==(m:Int))=false:=by rw[HA.out,pg,beq_eq_false_iff_ne];exact g1
  have HR:Hid (((A&&&m==m)&&(D&&&m==v))=false):=by simp[Hid,g1]
  rw[HR.out];clear HA g1 HR;go_enter Tryz.func134,Tryz.ntmps134;go_wp2_with fail;refine(HF.out _).mono ?_;rintro e w1⟨rfl,hb1⟩;obtain⟨⟨y0,y1⟩,B1⟩:=HX.out w1 hb1;clear hb1 HX;go_wp2;go_ret;exact⟨rfl,B1⟩
 have HE:Hid (gh ⟨2,l,h⟩=.iface 205 (.agg #[.int .u64 (l:Int),.int .u64 (h:Int)])):=rfl;have HW:Hid (fU c ⟨2,l,h⟩=(decide (l<=jd c)&&decide (gD c<=h))):=rfl;rw[HE.out,HW.out];obtain⟨T,P,F,e1,e2,e4,e3⟩:=oR hc;have HF:Hid (∀w,Calls Tryz.prog F #[P] w fun e w'=>e=.returned (two (jd c) (gD c))∧Below w.heap.size w w'):=e3;rw[e1];clear HE HW e1 e3 hc h2;generalize jd c=A at*;generalize gD c=D at*;have t1:=mU (l:Int) (h:Int);have t2:=E5 (l:Int) (h:Int);have hsz:w.heap.size<(w.alloc (.cells #[.int .u64 (l:Int),.int .u64 (h:Int)] 205)).heap.size:=by simp
 have x0:(w.alloc (.cells #[.int .u64 (l:Int),.int .u64 (h:Int)] 205)).cell? ⟨w.heap.size,0,none⟩=some (.int .u64 (l:Int)):=by simp
 have x1:(w.alloc (.cells #[.int .u64 (l:Int),.int .u64 (h:Int)] 205)).cell? ⟨w.heap.size,1,none⟩=some (.int .u64 (h:Int)):=by simp
 have B0:Below w.heap.size w (w.alloc (.cells #[.int .u64 (l:Int),.int .u64 (h:Int)] 205)):=(af _ _).alloc (ae _) _;have HX:Hid (∀w1,Below (w.alloc (.cells #[.int .u64 (l:Int),.int .u64 (h:Int)] 205)).heap.size (w.alloc (.cells #[.int .u64 (l:Int),.int .u64 (h:Int)] 205)) w1->(w1.cell? ⟨w.heap.size,0,none⟩=some (.int .u64 (l:Int))∧w1.cell? ⟨w.heap.size,1,none⟩=some (.int .u64 (h:Int)))∧Below w.heap.size w w1):=
  fun w1 hb=>⟨Gb hb hsz x0 x1,B0.trans (hb.mono B0.size)⟩
 clear hsz x0 x1 B0;by_cases g1:l<=A
 ·have g1':(l:Int)<=(A:Int):=by omega
  have HR:Hid ((decide (l<=A)&&decide (D<=h))=decide (D<=h)):=by simp[Hid,g1]
  rw[HR.out];clear g1 HR;go_enter Tryz.func134,Tryz.ntmps134;go_wp2_with fail;refine(HF.out _).mono ?_;rintro e w1⟨rfl,hb1⟩;obtain⟨⟨y0,y1⟩,B1⟩:=HX.out w1 hb1;clear hb1 HX;go_wp2;go_ret;exact⟨by simp,B1⟩
 have g1':¬(l:Int)<=(A:Int):=by omega
 have HR:Hid ((decide (l<=A)&&decide (D<=h))=false):=by simp[Hid,g1]
 rw[HR.out];clear g1 HR;go_enter Tryz.func134,Tryz.ntmps134;go_wp2_with fail;refine(HF.out _).mono ?_;rintro e w1⟨rfl,hb1⟩;obtain⟨⟨y0,y1⟩,B1⟩:=HX.out w1 hb1;clear hb1 HX;go_wp2;go_ret;exact⟨by simp,B1⟩
theorem eo{wa wb:World}(hb:Below wa.heap.size wa wb)(h:Below w.heap.size w wa):Below w.heap.size w wb:=h.trans (hb.mono h.size)
theorem fA{a:Addr}{v:Value}(h:w.cell? a=some v):a.block<w.heap.size:=by
 by_cases hb:a.block<w.heap.size
 ·exact hb
 exfalso;simp[World.cell?,cI (show w.heap.size<=a.block by omega)]at h
theorem eh{wa wb:World}(hb:Below wa.heap.size wa wb){p:Addr}{v:Value}(h:wa.cell? p=some v):wb.cell? p=some v:=(hb.cell (fA h)).trans h
def LAt{α:Type}(k:Nat)(P:World->Nat->Nat->α->Prop)(w:World)(b o:Nat)(l:List α):Prop:=∀i(h:i<l.length),P w b (o+i*k) l[i]
def eS{α:Type}(k:Nat)(P:World->Nat->Nat->α->Prop)(w:World)(a:Option Addr)(l:List α):Prop:=l=[]∨∃b o,a=some ⟨b,o,none⟩∧b<w.heap.size∧LAt k P w b o l
def mK{α:Type}(P:World->Nat->Nat->α->Prop):Prop:=∀w w' b o x,b<w.heap.size->Below w.heap.size w w'->P w b o x->P w' b o x
theorem eS.below{P:World->Nat->Nat->α->Prop}(hP:mK P){w':World}{a:Option Addr}{l:List α}(h:eS k P w a l)(hb:Below w.heap.size w w'):eS k P w' a l:=by
 rcases h with h|⟨b,o,ha,hlt,hc⟩
 ·exact .inl h
 exact .inr ⟨b,o,ha,an hlt hb.size,fun i hi=>hP _ _ _ _ _ hlt hb (hc i hi)⟩
def PK(w:World)(b o:Nat)(c:K):Prop:=w.cell? ⟨b,o,none⟩=some (.int .i64 c.kind)∧w.cell? ⟨b,o+1,none⟩=some (.int .u64 (c.a:Int))∧w.cell? ⟨b,o+2,none⟩=some (.int .u64 (c.b:Int))
def PR(w:World)(b o:Nat)(r:List K):Prop:=∃a cap,w.cell? ⟨b,o,none⟩=some (.slice a r.length cap)∧eS 3 PK w a r
def PE(w:World)(b o:Nat)(e:E):Prop:=w.cell? ⟨b,o,none⟩=some (.int .u32 e.et)∧w.cell? ⟨b,o+1,none⟩=some (.int .u32 e.nr)∧∃a cap,w.cell? ⟨b,o+2,none⟩=some (.slice a e.rules.length cap)∧eS 1 PR w a e.rules
theorem PK.stays:mK PK:=fun w w' b o x hlt hb⟨h0,h1,h2⟩=>⟨(hb.cell (p:=⟨b,_,none⟩) hlt).trans h0,(hb.cell (p:=⟨b,_,none⟩) hlt).trans h1,(hb.cell (p:=⟨b,_,none⟩) hlt).trans h2⟩
theorem PR.stays:mK PR:=fun w w' b o x hlt hb⟨a,cap,h0,h1⟩=>⟨a,cap,(hb.cell (p:=⟨b,_,none⟩) hlt).trans h0,h1.below PK.stays hb⟩
theorem PE.stays:mK PE:=fun w w' b o x hlt hb⟨h0,h1,a,cap,h2,h3⟩=>⟨(hb.cell (p:=⟨b,_,none⟩) hlt).trans h0,(hb.cell (p:=⟨b,_,none⟩) hlt).trans h1,a,cap,(hb.cell (p:=⟨b,_,none⟩) hlt).trans h2,h3.below PR.stays hb⟩
theorem eS.at{α:Type}{k:Nat}{P:World->Nat->Nat->α->Prop}{w:World}{a:Option Addr}{l:List α}(h:eS k P w a l){i:Nat}(hi:i<l.length)(d:α):∃b o,a=some ⟨b,o,none⟩∧b<w.heap.size∧P w b (o+i*k) (l.getD i d):=by
 rcases h with rfl|⟨b,o,h1,h2,h3⟩
 ·simp at hi
 refine⟨b,o,h1,h2,?_⟩;rw[aa,ag hi];exact h3 i hi
theorem eS.addr{P:World->Nat->Nat->α->Prop}{a:Option Addr}{l:List α}(h:eS k P w a l)(hn:l≠[]):∃b o,a=some ⟨b,o,none⟩∧b<w.heap.size∧LAt k P w b o l:=by
 rcases h with h|h
 ·exact absurd h hn
 exact h
theorem LAt.get{P:World->Nat->Nat->α->Prop}{b o:Nat}{l:List α}(h:LAt k P w b o l){i:Nat}(hi:i<l.length)(d:α):P w b (o+i*k) (l.getD i d):=by
 rw[aa,ag hi];exact h i hi
theorem LAt.below{P:World->Nat->Nat->α->Prop}(hP:mK P){w':World}{b o:Nat}{l:List α}(h:LAt k P w b o l)(hlt:b<w.heap.size)(hb:Below w.heap.size w w'):LAt k P w' b o l:=fun i hi=>hP _ _ _ _ _ hlt hb (h i hi)
theorem nZ(w:World)(t:TypeId)(x:Value):(w.alloc (.cells #[x] t)).cell? ⟨w.heap.size,0,none⟩=some x:=by simp
theorem qN(r:List K)(a:Option Addr)(cap:Nat)(w:World)(hs:eS 3 PK w a r)(ho:okR r)(hn:r.length<=16777216):
 Calls Tryz.prog 19 #[.agg #[.slice a r.length cap]] w fun e w'=>e=.returned (.bool (eG r))∧Below w.heap.size w w':=by
 by_cases h6:r.length=6
 ·have HC:Hid (∀i w,Calls Tryz.prog 41 #[fC (r.getD i K.zero)] w fun e w'=>e=.returned (.bool (eI (r.getD i K.zero)))∧Below w.heap.size w w'):=fun i w=>Aq _ w (ti ho i)
  have HY:Hid ((∀i,i<6->eI (r.getD i K.zero)=true)->eG r=true):=fun h=>by
   rw[eG,h6];simp only[beq_self_eq_true,Bool.true_and];exact(kS K.zero eI r).2 (fun i hi=>h i (by omega))
  have HF:Hid (∀i,i<6->eI (r.getD i K.zero)=false->eG r=false):=fun i hi h=>by
   rw[eG,vC (d:=K.zero) (by omega:i<r.length) h,cd]
  obtain⟨b,o,rfl,hlt,hp⟩:=hs.addr (by intro e;rw[e]at h6;simp at h6);have HP:Hid (∀wr,Below w.heap.size w wr->∀i,i<6->PK wr b (o+i*3) (r.getD i K.zero)):=fun wr hB i hi=>PK.stays _ _ _ _ _ hlt hB (hp.get (by omega) K.zero)
  rw[h6];obtain⟨V,hV⟩:∃V,eG r=V:=⟨_,rfl⟩;rw[hV]at HY HF⊢;clear hV hs hp h6 hn;have B:Below w.heap.size w (w.alloc (.cells #[.slice (some ⟨b,o,none⟩) 6 cap] 57)):=(af _ _).alloc (ae _) _;have x0:=nZ w 57 (.slice (some ⟨b,o,none⟩) 6 cap);go_enter Tryz.func19,Tryz.ntmps19;go_wp2_with fail;go_loopw [3](fun i wr=>∃k:Nat,k<=6∧i=.int .i64 k∧Hid (∀j,j<k->eI (r.getD j K.zero)=true)∧wr.cell? ⟨w.heap.size,0,none⟩=some (.slice (some ⟨b,o,none⟩) 6 cap)∧Below w.heap.size w wr)(fun i _=>6-(intOf i).toNat)
  case atStart=>exact⟨0,by omega,rfl,fun j hj=>by omega,x0,B⟩
  case round=>
   clear B x0;obtain⟨k,hk,rfl,HJ,x0,B⟩:=hrel;by_cases hk6:k<6
   ·obtain⟨c0,c1,c2⟩:=HP.out wr B k hk6;have HC1:Hid (∀w,Calls Tryz.prog 41 #[fC (r.getD k K.zero)] w fun e w'=>e=.returned (.bool (eI (r.getD k K.zero)))∧Below w.heap.size w w'):=HC.out k;have HF1:Hid (eI (r.getD k K.zero)=false->V=false):=HF.out k hk6;have HJ1:Hid (eI (r.getD k K.zero)=true->∀j,j<k+1->eI (r.getD j K.zero)=true):=fun h j hj=>by
     by_cases hjk:j=k
     ·subst hjk;exact h
     exact HJ.out j (by omega)
    have hk6':(k:Int)<6:=by omega
    generalize r.getD k K.zero=c at*;obtain⟨ck,ca,cb⟩:=c;simp only at c0 c1 c2;simp only[fC]at HC1;generalize eI ⟨ck,ca,cb⟩=Q at*;clear HC HF HP HJ;go_wp2_with fail;refine(HC1.out _).mono ?_;rintro _ w1⟨rfl,hb1⟩;have B1:=eo hb1 B;have x1:=eh hb1 x0;clear hb1 x0 c0 c1 c2
    cases Q with
    |false=>
     have hVf:V=false:=HF1.out (by first|rfl|trivial);subst hVf;go_wp2;go_ret;exact⟨rfl,B1⟩
    |true=>
     have HJ2:Hid (∀j,j<k+1->eI (r.getD j K.zero)=true):=HJ1.out (by first|rfl|trivial);go_wp2;go_roundw
     case rel=>exact⟨k+1,by omega,by go_num,HJ2,x1,B1⟩
     case measure=>simp[intOf];omega
   have hk':k=6:=by omega
   subst hk';have hVt:V=true:=HY.out HJ.out;subst hVt;go_wp2;go_ret;exact⟨rfl,B⟩
 have hV:eG r=false:=by rw[eG];simp[h6]
 rw[hV];have B:Below w.heap.size w (w.alloc (.cells #[.slice a r.length cap] 57)):=(af _ _).alloc (ae _) _;have e6:((r.length:Int)!=6)=true:=by rw[bne_iff_ne];omega
 clear hs ho hV h6;generalize r.length=n at*;go_enter Tryz.func19,Tryz.ntmps19;go_wp2;go_ret;exact⟨rfl,B⟩
end Go.Proofs.YtdihdapmphkhpaaGreat
namespace Go.Proofs.YtdihdapmphkhpaaGreat
open Go.RowKit Go.Deep
abbrev eu(P:List E)(t:Nat):List (List K):=(P.getD t E.zero).rules
abbrev fh(P:List E)(t s:Nat):List K:=(eu P t).getD s []
structure PsC(w:World)(v:Value)(P:List E)(g:Nat)(gb:Nat->Nat)(cb:Nat->Nat->Nat):Prop where
 val:∃a cap,v=.slice a P.length cap∧P.length<=cap∧(P≠[]->a=some ⟨g,0,none⟩)
 ent:∀t,t<P.length->w.cell? ⟨g,t*3,none⟩=some (.int .u32 (P.getD t E.zero).et)∧w.cell? ⟨g,t*3+1,none⟩=some (.int .u32 (P.getD t E.zero).nr)∧∃c,(eu P t).length<=c∧w.cell? ⟨g,t*3+2,none⟩=some (.slice (some ⟨gb t,0,none⟩) (eu P t).length c)
 rul:∀t s,t<P.length->s<(eu P t).length->∃c,(fh P t s).length<=c∧w.cell? ⟨gb t,s,none⟩=some (.slice (some ⟨cb t s,0,none⟩) (fh P t s).length c)
 con:∀t s m,t<P.length->s<(eu P t).length->m<(fh P t s).length->PK w (cb t s) (m*3) ((fh P t s).getD m K.zero)
 frg:P≠[]->g<w.heap.size∧∀o,w.frozen? ⟨g,o,none⟩=false
 frr:∀t,t<P.length->gb t<w.heap.size∧gb t≠g∧∀o,w.frozen? ⟨gb t,o,none⟩=false
 frc:∀t s,t<P.length->s<(eu P t).length->cb t s<w.heap.size∧cb t s≠g∧(∀t',t'<P.length->cb t s≠gb t')∧∀o,w.frozen? ⟨cb t s,o,none⟩=false
 drr:∀t t',t<P.length->t'<P.length->t≠t'->gb t≠gb t'
 dcc:∀t s t' s',t<P.length->s<(eu P t).length->t'<P.length->s'<(eu P t').length->¬(t=t'∧s=s')->cb t s≠cb t' s'
theorem tf{w:World}{B t s n q:Nat}{v:Value}{xs:List Value}(h:w.ownsRow B t s v n xs)(hq:v.ownBlock=some q):∃cur,w.heap[q]? =some (.cells cur t (0,0)):=by
 obtain⟨_,h|⟨g,cap,cu,e,_,hg,_⟩⟩:=h
 ·rw[h.1]at hq;cases hq
 rw[e]at hq;simp[Value.ownBlock]at hq;subst hq;exact⟨cu,hg⟩
theorem xO{w:World}{a b ta tb:Nat}(h:ta≠tb)(h1:∃cur,w.heap[a]? =some (.cells cur ta (0,0)))(h2:∃cur,w.heap[b]? =some (.cells cur tb (0,0))):a≠b:=fun e=>by
 obtain⟨c1,h1⟩:=h1;obtain⟨c2,h2⟩:=h2;subst e;rw[h1]at h2;simp only[bz,Obj.cells.injEq]at h2;exact h h2.2.1
theorem vB{w:World}{a t:Nat}(h1:∃cur,w.heap[a]? =some (.cells cur t (0,0)))(o:Nat):w.frozen? ⟨a,o,none⟩=false:=by
 obtain⟨c1,h1⟩:=h1;simp[World.frozen?,h1]
theorem vi(l:List E)(rv:Nat->Value){i:Nat}(hi:i<l.length):(jB l rv)[i*3]? =some (.int .u32 (l.getD i E.zero).et)∧(jB l rv)[i*3+1]? =some (.int .u32 (l.getD i E.zero).nr)∧(jB l rv)[i*3+2]? =some (rv i):=by
 have key:∀n,i<n->∀r,r<3->((List.range n).flatMap fun i=>mI (l.getD i E.zero) (rv i))[i*3+r]? =(mI (l.getD i E.zero) (rv i))[r]? :=by
  intro n;induction n with
  |zero=>intro h;omega
  |succ n ih=>
   intro h r hr;have hl:((List.range n).flatMap fun i=>mI (l.getD i E.zero) (rv i)).length=n*3:=by
    clear ih h;induction n with
    |zero=>rfl
    |succ n ih=>rw[cC,bY,aj,ih];simp[mI];omega
   rw[cC,bY];by_cases h2:i<n
   ·rw[aD (by omega)];exact ih h2 r hr
   obtain rfl:i=n:=by omega
   rw[aw (by omega),hl,Nat.add_sub_cancel_left];simp
 refine⟨?_,?_,?_⟩
 ·have:=key l.length hi 0 (by omega);simpa[jB,mI]using this
 ·have:=key l.length hi 1 (by omega);simpa[jB,mI]using this
 have:=key l.length hi 2 (by omega);simpa[jB,mI]using this
theorem Gf(l:List K){i:Nat}(hi:i<l.length):(je l)[i*3]? =some (.int .i64 (l.getD i K.zero).kind)∧(je l)[i*3+1]? =some (.int .u64 ((l.getD i K.zero).a:Int))∧(je l)[i*3+2]? =some (.int .u64 ((l.getD i K.zero).b:Int)):=by
 induction l generalizing i with
 |nil=>simp at hi
 |cons x l ih=>
  cases i with
  |zero=>simp[je,cKd]
  |succ i=>
   have h:=ih (i:=i) (by simpa using hi);have e:je (x::l)=cKd x++je l:=by simp[je]
   have el:(cKd x).length=3:=rfl;rw[e];refine⟨?_,?_,?_⟩
   ·rw[aw (by omega),el,show(i+1)*3-3=i*3 by omega];simpa using h.1
   ·rw[aw (by omega),el,show(i+1)*3+1-3=i*3+1 by omega];simpa using h.2.1
   rw[aw (by omega),el,show(i+1)*3+2-3=i*3+2 by omega];simpa using h.2.2
theorem Dy{w:World}{B b n c:Nat}{r:List K}(h:fO w B (.slice (some ⟨b,0,none⟩) n c) r){m:Nat}(hm:m<r.length):PK w b (m*3) (r.getD m K.zero):=by
 have hk:=uZ h;obtain⟨h0,h1,h2⟩:=Gf r hm;have k0:=hk _ _ h0;have k1:=hk _ _ h1;have k2:=hk _ _ h2;rw[kn,aC]at k0 k1 k2;exact⟨k0,k1,k2⟩
theorem vj{w:World}{B t s n q:Nat}{v:Value}{xs:List Value}(h:w.ownsRow B t s v n xs)(hq:v.ownBlock=some q):∃c,n<=c∧v=.slice (some ⟨q,0,none⟩) n c:=by
 obtain⟨_,h|⟨g,cap,cu,e,_,hg,hn,_⟩⟩:=h
 ·rw[h.1]at hq;cases hq
 rw[e]at hq;simp[Value.ownBlock]at hq;subst hq;exact⟨cap,hn,e⟩
theorem PsD.psc{w:World}{B:Nat}{v:Value}{l:List E}{rv:Nat->Value}{lo hi:Nat->Nat}(h:PsD w B v l rv lo hi):
 ∃g gb cb,PsC w v l g gb cb∧(l≠[]->B<=g)∧(∀t,t<l.length->lo t<=gb t∧gb t<hi t)∧∀t s,t<l.length->s<(eu l t).length->lo t<=cb t s∧cb t s<hi t:=by
 have hex:∀t,∃(vs:Nat->Value)(cb:Nat->Nat)(gb:Nat),t<l.length->RsD w (lo t) (rv t) (l.getD t E.zero).rules vs cb gb∧gb<hi t∧∀i,i<(l.getD t E.zero).rules.length->cb i<hi t:=fun t=>by
  by_cases ht:t<l.length
  ·obtain⟨vs,cb,gb,h1⟩:=h.own t ht;exact⟨vs,cb,gb,fun _=>h1⟩
  exact⟨fun _=>undef,fun _=>0,0,fun h=>absurd h ht⟩
 obtain⟨vs,hvs⟩:=Classical.axiomOfChoice hex;obtain⟨cb,hcb⟩:=Classical.axiomOfChoice hvs;obtain⟨gb,hgb⟩:=Classical.axiomOfChoice hcb;clear hex hvs hcb;obtain⟨a,cap,ev,hcap,hne⟩:=h.form;have hg:∃g,(l≠[]->a=some ⟨g,0,none⟩∧B<=g∧g<w.heap.size):=by
  by_cases hl:l=[]
  ·exact⟨0,fun h=>absurd hl h⟩
  obtain⟨g,h1⟩:=hne hl;exact⟨g,fun _=>h1⟩
 obtain⟨g,hg⟩:=hg;have nn:∀{t},t<l.length->l≠[]:=fun ht e=>by rw[e]at ht;simp at ht
 have hob:∀{t},t<l.length->v.ownBlock=some g:=fun ht=>by rw[ev,(hg (nn ht)).1];rfl
 have tg:∀{t},t<l.length->∃cur,w.heap[g]? =some (.cells cur 53 (0,0)):=fun ht=>tf h.row (hob ht)
 have tr:∀{t},t<l.length->∃cur,w.heap[gb t]? =some (.cells cur 57 (0,0)):=fun ht=>tf (hgb _ ht).1.row (hgb _ ht).1.ob
 have tc:∀{t s},t<l.length->s<(eu l t).length->∃cur,w.heap[cb t s]? =some (.cells cur 84 (0,0)):=fun ht hs=>tf ((hgb _ ht).1.own _ hs).1 ((hgb _ ht).1.own _ hs).2
 have hcl:∀t s,t<l.length->s<(eu l t).length->lo t<=cb t s∧cb t s<hi t:=fun t s ht hs=>⟨(((hgb t ht).1.own s hs).1.lt _ ((hgb t ht).1.own s hs).2).1,(hgb t ht).2.2 s hs⟩
 have hgl:∀t,t<l.length->lo t<=gb t∧gb t<hi t:=fun t ht=>⟨((hgb t ht).1.row.lt _ (hgb t ht).1.ob).1,(hgb t ht).2.1⟩
 refine⟨g,gb,cb,⟨⟨a,cap,ev,hcap,fun hl=>(hg hl).1⟩,fun t ht=> ?_,fun t s ht hs=> ?_,fun t s m ht hs hm=> ?_,fun hl=>⟨(hg hl).2.2,?_⟩,fun t ht=>⟨?_,xO (by decide) (tr ht) (tg ht),vB (tr ht)⟩,fun t s ht hs=>⟨?_,xO (by decide) (tc ht hs) (tg ht),fun t' ht'=>xO (by decide) (tc ht hs) (tr ht'),vB (tc ht hs)⟩,fun t t' ht ht' hne e=> ?_,fun t s t' s' ht hs ht' hs' hne e=> ?_⟩,fun hl=>(hg hl).2.1,hgl,hcl⟩
 ·obtain⟨h0,h1,h2⟩:=vi l rv ht;have k0:=h.row.cells (hob ht) _ _ h0;have k1:=h.row.cells (hob ht) _ _ h1;have k2:=h.row.cells (hob ht) _ _ h2;rw[kn,aC]at k0 k1 k2;obtain⟨c,hc,er⟩:=vj (hgb t ht).1.row (hgb t ht).1.ob;rw[er]at k2;exact⟨k0,k1,c,hc,k2⟩
 ·obtain⟨c,hc,er⟩:=vj ((hgb t ht).1.own s hs).1 ((hgb t ht).1.own s hs).2;have k:=(hgb t ht).1.row.cells (hgb t ht).1.ob s (vs t s) (by rw[cJ,List.getElem?_range hs];rfl);rw[kn,aC,er]at k;exact⟨c,hc,k⟩
 ·obtain⟨c,hc,er⟩:=vj ((hgb t ht).1.own s hs).1 ((hgb t ht).1.own s hs).2;have k:=((hgb t ht).1.own s hs).1;rw[er]at k;exact Dy k hm
 ·obtain⟨t,ht⟩:∃t,t<l.length:=⟨0,cZ.2 hl⟩;exact vB (tg ht)
 ·have:=hgl t ht;have:=h.lt t ht;omega
 ·have:=hcl t s ht hs;have:=h.lt t ht;omega
 ·have a1:=hgl t ht;have a2:=hgl t' ht';rcases dJ hne with h1|h1
  ·have:=h.inc t t' h1 ht';omega
  have:=h.inc t' t h1 ht;omega
 have a1:=hcl t s ht hs;have a2:=hcl t' s' ht' hs';by_cases htt:t=t'
 ·subst htt;have hss:s≠s':=fun h=>hne ⟨rfl,h⟩
  rcases dJ hss with h1|h1
  ·have:=(hgb t ht).1.inc s s' h1 hs';omega
  have:=(hgb t ht).1.inc s' s h1 hs;omega
 rcases dJ htt with h1|h1
 ·have:=h.inc t t' h1 ht';omega
 have:=h.inc t' t h1 ht;omega
theorem LAt.of{α:Type}{k:Nat}{Q:World->Nat->Nat->α->Prop}{w:World}{b o:Nat}{l:List α}(d:α)(h:∀i,i<l.length->Q w b (o+i*k) (l.getD i d)):LAt k Q w b o l:=fun i hi=>by
 have:=h i hi;rwa [aa,ag hi]at this
section
variable{w w1:World}{v:Value}{P:List E}{g:Nat}{gb:Nat->Nat}{cb:Nat->Nat->Nat}
theorem PsC.ks(h:PsC w v P g gb cb)(hs:w.heap.size<=w1.heap.size){t s:Nat}(ht:t<P.length)(hst:s<(eu P t).length)(hc:∀o,w1.cell? ⟨cb t s,o,none⟩=w.cell? ⟨cb t s,o,none⟩):eS 3 PK w1 (some ⟨cb t s,0,none⟩) (fh P t s):=
 .inr ⟨_,0,rfl,by have:=(h.frc t s ht hst).1;omega,LAt.of K.zero fun m hm=>by
  obtain⟨c0,c1,c2⟩:=h.con t s m ht hst hm
  rw[aC]
  exact⟨(hc _).trans c0,(hc _).trans c1,(hc _).trans c2⟩⟩
theorem PsC.rs(h:PsC w v P g gb cb)(hs:w.heap.size<=w1.heap.size){t:Nat}(ht:t<P.length)(hr:∀s,s<(eu P t).length->w1.cell? ⟨gb t,s,none⟩=w.cell? ⟨gb t,s,none⟩)(hc:∀s,s<(eu P t).length->∀o,w1.cell? ⟨cb t s,o,none⟩=w.cell? ⟨cb t s,o,none⟩):eS 1 PR w1 (some ⟨gb t,0,none⟩) (eu P t):=
 .inr ⟨_,0,rfl,by have:=(h.frr t ht).1;omega,LAt.of [] fun s hst=>by
  obtain⟨c,_,hv⟩:=h.rul t s ht hst
  rw[aC,bR]
  exact⟨_,c,(hr s hst).trans hv,h.ks hs ht hst (hc s hst)⟩⟩
theorem PsC.pe(h:PsC w v P g gb cb)(hs:w.heap.size<=w1.heap.size){t:Nat}(ht:t<P.length){g' o':Nat}(h0:w1.cell? ⟨g',o',none⟩=w.cell? ⟨g,t*3,none⟩)(h1:w1.cell? ⟨g',o'+1,none⟩=w.cell? ⟨g,t*3+1,none⟩)(h2:w1.cell? ⟨g',o'+2,none⟩=w.cell? ⟨g,t*3+2,none⟩)
 (hr:∀s,s<(eu P t).length->w1.cell? ⟨gb t,s,none⟩=w.cell? ⟨gb t,s,none⟩)(hc:∀s,s<(eu P t).length->∀o,w1.cell? ⟨cb t s,o,none⟩=w.cell? ⟨cb t s,o,none⟩):PE w1 g' o' (P.getD t E.zero):=by
 obtain⟨e0,e1,c,_,e2⟩:=h.ent t ht;exact⟨h0.trans e0,h1.trans e1,_,c,h2.trans e2,h.rs hs ht hr hc⟩
theorem PsC.src(h:PsC w v P g gb cb):∃a cap,v=.slice a P.length cap∧P.length<=cap∧eS 3 PE w a P:=by
 obtain⟨a,cap,e,hc,hn⟩:=h.val;refine⟨a,cap,e,hc,?_⟩;by_cases hP:P=[]
 ·exact .inl hP
 refine .inr ⟨g,0,hn hP,(h.frg hP).1,LAt.of E.zero fun t ht=> ?_⟩;rw[aC];exact h.pe (ae _) ht rfl rfl rfl (fun _ _=>rfl) (fun _ _ _=>rfl)
theorem PsC.far(h:PsC w v P g gb cb)(hs:w.heap.size<=w1.heap.size)(hg:P≠[]->w1.heap[g]? =w.heap[g]?)(hr:∀t,t<P.length->w1.heap[gb t]? =w.heap[gb t]?)(hc:∀t s,t<P.length->s<(eu P t).length->w1.heap[cb t s]? =w.heap[cb t s]?):PsC w1 v P g gb cb:=by
 have nn:∀{t},t<P.length->P≠[]:=fun ht e=>by rw[e]at ht;simp at ht
 have cg:∀{t},t<P.length->∀o,w1.cell? ⟨g,o,none⟩=w.cell? ⟨g,o,none⟩:=fun ht o=>aN (a:=⟨g,o,none⟩) (hg (nn ht))
 have cr:∀{t},t<P.length->∀o,w1.cell? ⟨gb t,o,none⟩=w.cell? ⟨gb t,o,none⟩:=fun{t}ht o=>aN (a:=⟨gb t,o,none⟩) (hr t ht)
 have cc:∀{t s},t<P.length->s<(eu P t).length->∀o,w1.cell? ⟨cb t s,o,none⟩=w.cell? ⟨cb t s,o,none⟩:=fun{t s}ht hs o=>aN (a:=⟨cb t s,o,none⟩) (hc t s ht hs)
 refine⟨h.val,fun t ht=> ?_,fun t s ht hst=> ?_,fun t s m ht hst hm=> ?_,fun hl=>⟨by have:=(h.frg hl).1;omega,fun o=>(ch (a:=⟨g,o,none⟩) (hg hl)).trans ((h.frg hl).2 o)⟩,fun t ht=>⟨by have:=(h.frr t ht).1;omega,(h.frr t ht).2.1,fun o=>(ch (a:=⟨gb t,o,none⟩) (hr t ht)).trans ((h.frr t ht).2.2 o)⟩,fun t s ht hst=>⟨by have:=(h.frc t s ht hst).1;omega,(h.frc t s ht hst).2.1,(h.frc t s ht hst).2.2.1,fun o=>(ch (a:=⟨cb t s,o,none⟩) (hc t s ht hst)).trans ((h.frc t s ht hst).2.2.2 o)⟩,h.drr,h.dcc⟩
 ·obtain⟨e0,e1,c,hc',e2⟩:=h.ent t ht;exact⟨(cg ht _).trans e0,(cg ht _).trans e1,c,hc',(cg ht _).trans e2⟩
 ·obtain⟨c,hc',e⟩:=h.rul t s ht hst;exact⟨c,hc',(cr ht _).trans e⟩
 obtain⟨e0,e1,e2⟩:=h.con t s m ht hst hm;exact⟨(cc ht hst _).trans e0,(cc ht hst _).trans e1,(cc ht hst _).trans e2⟩
end
end Go.Proofs.YtdihdapmphkhpaaGreat
namespace Go.Proofs.YtdihdapmphkhpaaGreat
open Go.RowKit Go.Deep
theorem oX(b:Nat):∀(vs:List Value)(o:Nat)(w:World),w.grownBy (w.setCells b o vs) (some b)
 |[],o,w=>ah _ _
 |v::r,o,w=>eU (fG (ah w (some b)) o v) (oX b r (o+1) _)
structure SlC(w:World)(size b off n cap:Nat)(olds:List Value):Prop where
 le:n<=cap
 lt:b<w.heap.size
 len:olds.length=n*size
 olds:∀j u,olds[j]? =some u->w.cell? ⟨b,off+j,none⟩=some u
 spare:∀j,j<(cap-n)*size->(w.cell? ⟨b,off+n*size+j,none⟩).isSome=true
 fr:∀o,w.frozen? ⟨b,o,none⟩=false
theorem SlC.uw{w:World}{B e size n g cap:Nat}{xs:List Value}(h:w.ownsRow B e size (.slice (some ⟨g,0,none⟩) n cap) n xs):SlC w size g 0 n cap xs:=by
 have h0:=h;obtain⟨hl,h|⟨g',cap',cur,ev,hB,hg,hn,hm,hs,ht⟩⟩:=h
 ·cases h.1
 simp only[bs,bz,Addr.mk.injEq,and_true,true_and]at ev;obtain⟨rfl,rfl⟩:=ev;refine⟨hn,(h0.lt g rfl).2,hl,fun j u hu=> ?_,fun j hj=> ?_,fun o=>by simp[World.frozen?,hg]⟩
 ·have:=h0.cells rfl j u hu;rwa [kn]at this
 simp only[World.cell?,hg];have hlt:0+n*size+j<cur.size:=by
  rw[hs];have e:cap=n+(cap-n):=by omega
  have:cap*size=n*size+(cap-n)*size:=by rw[<-cT,<-e]
  omega
 simp;omega
theorem SlC.tail{w:World}{size b off n cap:Nat}{olds:List Value}(h:SlC w size b off (n+1) (cap+1) olds):SlC w size b (off+size) n cap (olds.drop size):=by
 refine⟨by have:=h.le;omega,h.lt,by rw[bK,h.len,cT,dd,Nat.add_sub_cancel],fun j u hu=> ?_,fun j hj=> ?_,h.fr⟩
 ·rw[List.getElem?_drop]at hu;have:=h.olds _ _ hu;rwa [<-cX]at this
 have:=h.spare j (by have e:cap+1-(n+1)=cap-n:=by omega
                     rw[e];exact hj)
 rwa [show off+(n+1)*size+j=off+size+n*size+j by rw[cT,dd];omega]at this
structure ApC(w:World)(size b off n:Nat)(xs:List Value)(w':World)(g' o' cap':Nat):Prop where
 sl:SlC w' size g' o' (n+1) cap' xs
 gr:w.grownBy w' (some b)
 cell:∀b' o,b'<w.heap.size->¬(b'=b∧off+n*size<=o)->w'.cell? ⟨b',o,none⟩=w.cell? ⟨b',o,none⟩
 frz:∀b' o,b'<w.heap.size->w'.frozen? ⟨b',o,none⟩=w.frozen? ⟨b',o,none⟩
 at':(g'=b∧o'=off)∨(w.heap.size<=g'∧o'=0)
theorem te {P : Program} (w : World) (t ty : TypeId) (e : TypeId) (i : TypeInfo) (z : Value) (size bytes : Nat) (ht : P.underlying t = some (.slice e)) (hi : P.info? e = some i) (hz : i.zero = some z)
    (hsize : i.size = size) (hby : i.bytes = bytes) (hzs : z.cells.size = size) (hsz : 0 < size) {b off n cap : Nat} {olds : List Value} (h : SlC w size b off n cap olds)
    (ad : Addr) (c : Nat) (news : List Value) (hl : news.length = 1 * size) (hnews : ∀ j u, news[j]? = some u -> w.cell? (ad.add j) = some u) (h1 : ∀ u ∈ news, u.oneCell' = true)
    (h63 : n + 1 <= maxLen) (hbytes : (n + 1) * bytes <= 140737488355328) :
    ∃ g' o' cap' w', (Builtin.append_ #[t, t] ty #[.slice (some ⟨b, off, none⟩) n cap, .slice (some ad) 1 c]).run P w = .ok (.slice (some ⟨g', o', none⟩) (n + 1) cap') w' ∧ ApC w size b off n (olds ++ news) w' g' o' cap' := by
  subst hsize
  rw [dd] at hl
  by_cases hr : n + 1 <= cap
  · have hsp : (cap - n) * i.size = i.size + (cap - n - 1) * i.size := by
      have : cap - n = 1 + (cap - n - 1) := by omega
      rw [this, cT, dd]; simp
    have hsome : ∀ j, j < news.length -> (w.cell? ⟨b, off + n * i.size + j, none⟩).isSome = true := fun j hj => h.spare j (by omega)
    have hrun := run_append_room_cells (P := P) w t ty e i ht hi b off n cap ad 1 c news (by rw [hl, dd]) hnews h1 hr hsome (fun j _ => h.fr _)
    refine ⟨b, off, cap, _, hrun, ⟨hr, ?_, ?_, ?_, ?_, fun o => (World.frozen?_setCells b _ _ _ _).trans (h.fr o)⟩, oX b _ _ _, ?_, fun b' o _ => World.frozen?_setCells b _ _ _ _, .inl ⟨rfl, rfl⟩⟩
    · exact an h.lt (oX b news _ w).size
    · rw [aj, h.len, hl, cT, dd]
    · intro j u hu
      by_cases hj : j < olds.length
      · rw [aD hj] at hu
        rw [World.cell?_setCells_out b _ _ _ _ (fun _ _ => .inl (by show off + j < off + n * i.size; have := h.len; omega))]
        exact h.olds j u hu
      · rw [aw (by omega)] at hu
        have hlt : j - olds.length < news.length := (cS.1 hu).1
        have := World.cell?_setCells_in b news (off + n * i.size) w hsome (j - olds.length) hlt
        rw [show off + n * i.size + (j - olds.length) = off + j by have := h.len; omega] at this
        rw [this, <- hu, ag hlt]
    · intro j hj
      rw [World.cell?_setCells_out b _ _ _ _ (fun _ _ => .inr (by show off + n * i.size + news.length <= off + (n + 1) * i.size + j; rw [cT, dd, hl]; omega))]
      rw [show off + (n + 1) * i.size + j = off + n * i.size + (i.size + j) by rw [cT, dd]; omega]
      refine h.spare _ ?_
      rw [hsp, show cap - n - 1 = cap - (n + 1) by omega]; omega
    · intro b' o hb hn
      exact World.cell?_setCells_out b _ _ _ _ (fun e1 _ => .inl (by
        have e2 : b' = b := e1
        show o < off + n * i.size
        rcases de o (off + n * i.size) with h | h
        · exact h
        · exact absurd ⟨e2, h⟩ hn))
  · obtain ⟨v', w', hrun, r1, r2⟩ := run_append_arg_grows (P := P) w t ty e i z i.size bytes ht hi hz rfl hby hzs hsz ⟨b, off, none⟩ n cap olds h.len (fun j u hu => by rw [Addr.add_lit]; exact h.olds j u hu) ad 1 c news (by rw [hl, dd]) hnews (by omega) h63 hbytes
    obtain ⟨g', cap', rfl, hB, hlt⟩ := r1.form (by omega)
    have hc : ∀ k, k < w.heap.size -> w'.heap[k]? = w.heap[k]? := fun k hk => r2.block k hk (by simp)
    exact ⟨g', 0, cap', w', hrun, SlC.uw r1, ⟨r2.os, r2.tape, r2.output, r2.size, fun k hk _ => hc k hk⟩, fun b' o hb _ => aN (a := ⟨b', o, none⟩) (hc b' hb), fun b' o hb => ch (a := ⟨b', o, none⟩) (hc b' hb), .inr ⟨hB, rfl⟩⟩
section
variable{P:Program}(w:World)
theorem oi{o:Oper}{a:Act}{K:Act->World->Prop}{Q:Exit->Act->World->Prop}(s x:Operand)(t:TypeId)
 (ho:o.op=.call {callee:=.builtin .append,args:= #[s,x],argTypes:= #[t,t]})
 (e:TypeId)(i:TypeInfo)(z:Value)(size bytes:Nat)(ht:P.underlying t=some (.slice e))(hi:P.info? e=some i)(hz:i.zero=some z)
 (hsize:i.size=size)(hby:i.bytes=bytes)(hzs:z.cells.size=size)(hsz:0<size)
 (b off n cap:Nat)(olds:List Value)(hs:a.eval s=.slice (some ⟨b,off,none⟩) n cap)(h:SlC w size b off n cap olds)
 (ad:Addr)(c:Nat)(news:List Value)(hx:a.eval x=.slice (some ad) 1 c)(hl:news.length=1*size)(hnews:∀j u,news[j]? =some u->w.cell? (ad.add j)=some u)(h1:∀u∈news,u.oneCell'=true)
 (h63:n+1<=maxLen)(hbytes:(n+1)*bytes<=140737488355328)
 (hK:∀g' o' cap' w',ApC w size b off n (olds++news) w' g' o' cap'->K (a.put o.dst (.slice (some ⟨g',o',none⟩) (n+1) cap')) w'):o.wp P a w K Q:=by
 obtain⟨g',o',cap',w',hr,h2⟩:=te (P:=P) w t o.type e i z size bytes ht hi hz hsize hby hzs hsz h ad c news hl hnews h1 h63 hbytes
 unfold Oper.wp execOp
 simp only[ho,resolve,invoke,builtin,Sem.run_bind,Sem.run_pure,Result.andThen_ok,List.map_toArray,List.map_cons,List.map_nil,hs,hx,hr]
 exact hK g' o' cap' w' h2
theorem qo{ops:Array Oper}{rest:List Oper}{o:Oper}{a:Act}{Q:Exit->Act->World->Prop}(hgd:o.guard=none)(s x:Operand)(t:TypeId)
 (ho:o.op=.call {callee:=.builtin .append,args:= #[s,x],argTypes:= #[t,t]})
 (e:TypeId)(i:TypeInfo)(z:Value)(size bytes:Nat)(ht:P.underlying t=some (.slice e))(hi:P.info? e=some i)(hz:i.zero=some z)
 (hsize:i.size=size)(hby:i.bytes=bytes)(hzs:z.cells.size=size)(hsz:0<size)
 (b off n cap:Nat)(olds:List Value)(hs:a.eval s=.slice (some ⟨b,off,none⟩) n cap)(h:SlC w size b off n cap olds)
 (ad:Addr)(c:Nat)(news:List Value)(hx:a.eval x=.slice (some ad) 1 c)(hl:news.length=1*size)(hnews:∀j u,news[j]? =some u->w.cell? (ad.add j)=some u)(h1:∀u∈news,u.oneCell'=true)
 (h63:n+1<=maxLen)(hbytes:(n+1)*bytes<=140737488355328)
 (hK:∀g' o' cap' w',ApC w size b off n (olds++news) w' g' o' cap'->wpList P ops Q rest (a.put o.dst (.slice (some ⟨g',o',none⟩) (n+1) cap')) w'):wpList P ops Q (o::rest) a w:=
 wpList_plain hgd fun _ hK'=>oi w s x t ho e i z size bytes ht hi hz hsize hby hzs hsz b off n cap olds hs h ad c news hx hl hnews h1 h63 hbytes fun g' o' cap' w' h2=>hK' _ _ (hK g' o' cap' w' h2)
theorem ko{ops:Array Oper}{o:Oper}{a:Act}{K:Act->World->Prop}{Q:Exit->Act->World->Prop}{E:Prop}(hgd:o.guard=none)(s x:Operand)(t:TypeId)
 (ho:o.op=.call {callee:=.builtin .append,args:= #[s,x],argTypes:= #[t,t]})
 (e:TypeId)(i:TypeInfo)(z:Value)(size bytes:Nat)(ht:P.underlying t=some (.slice e))(hi:P.info? e=some i)(hz:i.zero=some z)
 (hsize:i.size=size)(hby:i.bytes=bytes)(hzs:z.cells.size=size)(hsz:0<size)
 (b off n cap:Nat)(olds:List Value)(hs:a.eval s=.slice (some ⟨b,off,none⟩) n cap)(h:SlC w size b off n cap olds)
 (ad:Addr)(c:Nat)(news:List Value)(hx:a.eval x=.slice (some ad) 1 c)(hl:news.length=1*size)(hnews:∀j u,news[j]? =some u->w.cell? (ad.add j)=some u)(h1:∀u∈news,u.oneCell'=true)
 (h63:n+1<=maxLen)(hbytes:(n+1)*bytes<=140737488355328)
 (hK:∀g' o' cap' w',ApC w size b off n (olds++news) w' g' o' cap'->K (a.put o.dst (.slice (some ⟨g',o',none⟩) (n+1) cap')) w'):
 if Region.wanted o (yielded ops a.tmps)=true then Oper.wp P o a w K Q else E:=by
 have hw:Region.wanted o (yielded ops a.tmps)=true:=by simp[Region.wanted,hgd]
 rw[if_pos hw]
 exact oi w s x t ho e i z size bytes ht hi hz hsize hby hzs hsz b off n cap olds hs h ad c news hx hl hnews h1 h63 hbytes hK
end
end Go.Proofs.YtdihdapmphkhpaaGreat
