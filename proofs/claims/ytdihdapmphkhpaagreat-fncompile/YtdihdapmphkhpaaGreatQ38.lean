import Derived.Test.YtdihdapmphkhpaaGreatQ11
import Derived.Test.YtdihdapmphkhpaaGreatQ37
set_option linter.all false
set_option maxRecDepth 200000
set_option maxHeartbeats 16000000
namespace Go.Proofs.YtdihdapmphkhpaaGreat
open Go.RowKit
variable{b k:Nat}{w:World}{α:Type}
theorem ru(a m b fail:Int):(ig a m b fail).length<=3:=by
 unfold ig;split
 ·simp
 split<;>simp
theorem zJ(x:Nat)(a fail t:Int):(ly x a fail t).length<=6:=by
 unfold ly;split
 ·simp
 simp[td]
theorem Ed(x:Nat)(a fail t:Int):(jy x a fail t).length<=6:=by
 unfold jy;split
 ·simp
 simp[nf]
theorem si(c:K)(a fail p1 p2:Int):(gO c a fail p1 p2).length<=12:=by
 unfold gO;split
 ·have h1:=ru (a+4) (upH c.a) (upH c.b) fail;have h2:=ru a (loH c.a) (loH c.b) fail;simp only[aj];omega
 split
 ·have h1:=zJ c.a a fail p1;have h2:=Ed c.b a fail p2;simp only[aj];omega
 simp
theorem xB{x y z:Value}{t:TypeId}{f:Nat×Nat}(h:w.heap[b]? =some (.cells #[x,y,z] t f)):w.cell? ⟨b,0,none⟩=some x∧w.cell? ⟨b,1,none⟩=some y∧w.cell? ⟨b,2,none⟩=some z:=by
 unfold World.cell?;simp only[h];exact⟨rfl,rfl,rfl⟩
theorem wF(w:World)(F:Nat)(v:Value)(p:List It)(n:Int)(c:K)(a fail:Int)(hS:WrS w F v p n)(hn:p.length<=800000)(h0:0<=a)(h1:a<=800)(hc:c.ok)(hn0:0<=n)(hn1:n<=800000):
 Calls Tryz.prog 158 #[.pointer (some ⟨F,0,none⟩),fC c,.int .i64 a,.int .i64 fail] w fun e w'=>fl F (p++gO c a fail (n+1) (iS c n+1)) (jZ c n) w e w':=by
 obtain⟨kd,ca,cb⟩:=c;have hca:ca<=18446744073709551615:=by have:=hc.2.1;simp only at this;omega
 have hcb:cb<=18446744073709551615:=by have:=hc.2.2;simp only at this;omega
 have hlt:=hS.lt;have hba:Below w.heap.size w (w.alloc (.cells #[.int .i64 kd,.int .u64 (ca:Int),.int .u64 (cb:Int)] 84)):=(af _ _).alloc (ae _) _;have hX:=heap_alloc_new w (.cells #[.int .i64 kd,.int .u64 (ca:Int),.int .u64 (cb:Int)] 84);have hS1:=hS.ey hba;have hK1:KW F w (w.alloc (.cells #[.int .i64 kd,.int .u64 (ca:Int),.int .u64 (cb:Int)] 84)):=KW.gG hba (bJ hlt);have HUp:Hid (∀(x:Nat)w1,x<=18446744073709551615->Calls Tryz.prog 166 #[.int .u64 (x:Int)] w1 fun e w'=>e=.returned (.int .u32 (upH x))∧w'=w1):=fun x w1 hx=>mV x w1 hx
 have HLo:Hid (∀(x:Nat)w1,x<=18446744073709551615->Calls Tryz.prog 167 #[.int .u64 (x:Int)] w1 fun e w'=>e=.returned (.int .u32 (loH x))∧w'=w1):=fun x w1 hx=>mR x w1 hx
 have hw4:IntKind.i64.wrap (a+4)=a+4:=by rw[aT];omega
 simp only[fC];go_enter Tryz.func158,Tryz.ntmps158;by_cases hk1:kd=1
 ·subst hk1;have hE:p++gO ⟨1,ca,cb⟩ a fail (n+1) (iS ⟨1,ca,cb⟩ n+1)=p++ig (a+4) (upH ca) (upH cb) fail++ig a (loH ca) (loH cb) fail:=by simp[gO]
  have hNn:jZ ⟨1,ca,cb⟩ n=n:=by simp[jZ]
  rw[hE,hNn];clear hE hNn;have hml:=ru (a+4) (upH ca) (upH cb) fail;have HM1:Hid (∀w1,WrS w1 F v p n->Calls Tryz.prog 165 #[.pointer (some ⟨F,0,none⟩),.int .u32 (upH ca),.int .u32 (upH cb),.int .i64 (a+4),.int .i64 fail] w1 fun e w'=>e=.returned (.tuple #[])∧(∃v',WrS w' F v' (p++ig (a+4) (upH ca) (upH cb) fail) n)∧KW F w1 w'):=fun w1 h=>rD w1 F v p n _ _ _ _ h (by omega) (by omega) (by omega)
  have HM2:Hid (∀w1 v1,WrS w1 F v1 (p++ig (a+4) (upH ca) (upH cb) fail) n->Calls Tryz.prog 165 #[.pointer (some ⟨F,0,none⟩),.int .u32 (loH ca),.int .u32 (loH cb),.int .i64 a,.int .i64 fail] w1 fun e w'=>e=.returned (.tuple #[])∧(∃v',WrS w' F v' (p++ig (a+4) (upH ca) (upH cb) fail++ig a (loH ca) (loH cb) fail) n)∧KW F w1 w'):=fun w1 v1 h=>rD w1 F v1 _ n _ _ _ _ h (by simp;omega) h0 (by omega)
  generalize p++ig (a+4) (upH ca) (upH cb) fail=q1 at*;generalize q1++ig a (loH ca) (loH cb) fail=q2 at*;have HSd:Hid (WrS (w.alloc (.cells #[.int .i64 1,.int .u64 (ca:Int),.int .u64 (cb:Int)] 84)).drew F v p n):=hS1.ey (af _ _).drew;have HKd:Hid (KW F w (w.alloc (.cells #[.int .i64 1,.int .u64 (ca:Int),.int .u64 (cb:Int)] 84)).drew):=hK1.trans (KW.gG (af _ _).drew (by simp;omega));have HX:Hid (∀w1,KW F (w.alloc (.cells #[.int .i64 1,.int .u64 (ca:Int),.int .u64 (cb:Int)] 84)).drew w1->w1.cell? ⟨w.heap.size,0,none⟩=some (.int .i64 1)∧w1.cell? ⟨w.heap.size,1,none⟩=some (.int .u64 (ca:Int))∧w1.cell? ⟨w.heap.size,2,none⟩=some (.int .u64 (cb:Int))):=fun w1 h=>xB (h.f _ _ _ _ hX (by decide) (by decide))
  have HPo:Hid (∀w' v',WrS w' F v' q2 n->KW F w w'->fl F q2 n w (.returned (.tuple #[])) w'):=fun w' v' h2 h3=>⟨rfl,⟨v',h2⟩,h3⟩
  clear hS hba hX hS1 hK1 hml;go_wp2_with fail;go_region_with(first
   |(go_at_call 166;refine(HUp.out _ _ (by first|exact hca|exact hcb)).mono ?_;rintro _ _⟨rfl,rfl⟩)
   |(go_at_call 165;refine(HM1.out _ HSd.out).mono ?_;rintro _ w1⟨rfl,⟨v1,hS1⟩,hK1⟩))
  all_goals
   obtain⟨b0,b1,b2⟩:=HX.out w1 hK1;have HK2:Hid (KW F w w1.drew):=(HKd.out.trans hK1).trans (KW.gG (af _ _).drew (bJ hS1.lt));have HS2:Hid (WrS w1.drew F v1 q1 n):=hS1.ey (af _ _).drew;clear hS1 hK1;go_wp2_with fail;go_region_with(first
    |(go_at_call 167;refine(HLo.out _ _ (by first|exact hca|exact hcb)).mono ?_;rintro _ _⟨rfl,rfl⟩)
    |(go_at_call 165;refine(HM2.out _ v1 HS2.out).mono ?_;rintro _ w2⟨rfl,⟨v2,hS3⟩,hK3⟩))
   all_goals
    have HF:Hid (fl F q2 n w (.returned (.tuple #[])) w2):=HPo.out w2 v2 hS3 (HK2.out.trans hK3);clear hS3 hK3;go_wp2;go_end0;exact HF.out
 by_cases hk2:kd=2
 ·subst hk2;have hE:p++gO ⟨2,ca,cb⟩ a fail (n+1) (iS ⟨2,ca,cb⟩ n+1)=p++ly ca a fail (n+1)++jy cb a fail (iS ⟨2,ca,cb⟩ n+1):=by simp[gO]
  have hNn:jZ ⟨2,ca,cb⟩ n=(if cb=18446744073709551615 then iS ⟨2,ca,cb⟩ n else iS ⟨2,ca,cb⟩ n+1):=by simp[jZ]
  have hLn:iS ⟨2,ca,cb⟩ n=(if ca=0 then n else n+1):=rfl;rw[hE,hNn];have hll:=zJ ca a fail (n+1);have hlb:n<=iS ⟨2,ca,cb⟩ n∧iS ⟨2,ca,cb⟩ n<=n+1:=by rw[hLn];split<;>omega
  have HM1:Hid (∀w1,WrS w1 F v p n->Calls Tryz.prog 168 #[.pointer (some ⟨F,0,none⟩),.int .u64 (ca:Int),.int .i64 a,.int .i64 fail] w1 fun e w'=>e=.returned (.tuple #[])∧(∃v',WrS w' F v' (p++ly ca a fail (n+1)) (iS ⟨2,ca,cb⟩ n))∧KW F w1 w'):=fun w1 h=>by rw[hLn];exact xG w1 F v p n ca a fail h (by omega) h0 (by omega) hca hn0 (by omega)
  have HM2:Hid (∀w1 v1,WrS w1 F v1 (p++ly ca a fail (n+1)) (iS ⟨2,ca,cb⟩ n)->Calls Tryz.prog 169 #[.pointer (some ⟨F,0,none⟩),.int .u64 (cb:Int),.int .i64 a,.int .i64 fail] w1 fun e w'=>e=.returned (.tuple #[])∧(∃v',WrS w' F v' (p++ly ca a fail (n+1)++jy cb a fail (iS ⟨2,ca,cb⟩ n+1)) (if cb=18446744073709551615 then iS ⟨2,ca,cb⟩ n else iS ⟨2,ca,cb⟩ n+1))∧KW F w1 w'):=fun w1 v1 h=>wJ w1 F v1 _ _ cb a fail h (by simp;omega) h0 (by omega) hcb (by omega) (by omega)
  generalize p++ly ca a fail (n+1)=q1 at*;generalize q1++jy cb a fail (iS ⟨2,ca,cb⟩ n+1)=q2 at*;generalize(if cb=18446744073709551615 then iS ⟨2,ca,cb⟩ n else iS ⟨2,ca,cb⟩ n+1)=n2 at*;generalize iS ⟨2,ca,cb⟩ n=n1 at*;have HX:Hid (∀w1,KW F (w.alloc (.cells #[.int .i64 2,.int .u64 (ca:Int),.int .u64 (cb:Int)] 84)) w1->w1.cell? ⟨w.heap.size,0,none⟩=some (.int .i64 2)∧w1.cell? ⟨w.heap.size,1,none⟩=some (.int .u64 (ca:Int))∧w1.cell? ⟨w.heap.size,2,none⟩=some (.int .u64 (cb:Int))):=fun w1 h=>xB (h.f _ _ _ _ hX (by decide) (by decide))
  have HPo:Hid (∀w' v',WrS w' F v' q2 n2->KW F w w'->fl F q2 n2 w (.returned (.tuple #[])) w'):=fun w' v' h2 h3=>⟨rfl,⟨v',h2⟩,h3⟩
  have HS1:Hid (WrS (w.alloc (.cells #[.int .i64 2,.int .u64 (ca:Int),.int .u64 (cb:Int)] 84)) F v p n):=hS1;have HK1:Hid (KW F w (w.alloc (.cells #[.int .i64 2,.int .u64 (ca:Int),.int .u64 (cb:Int)] 84))):=hK1;clear hS hba hX hS1 hK1 hll hlb hE hNn hLn HUp HLo;go_wp2_with fail;refine(HM1.out _ HS1.out).mono ?_;rintro _ w1⟨rfl,⟨v1,hS2⟩,hK2⟩;obtain⟨b0,b1,b2⟩:=HX.out w1 hK2;have HK2:Hid (KW F w w1):=HK1.out.trans hK2;clear hK2;go_wp2_with fail;refine(HM2.out _ v1 hS2).mono ?_;rintro _ w2⟨rfl,⟨v2,hS3⟩,hK3⟩;have HF:Hid (fl F q2 n2 w (.returned (.tuple #[])) w2):=HPo.out w2 v2 hS3 (HK2.out.trans hK3);clear hS2 hS3 hK3;go_wp2;go_end0;exact HF.out
 have hE:p++gO ⟨kd,ca,cb⟩ a fail (n+1) (iS ⟨kd,ca,cb⟩ n+1)=p:=by simp[gO,hk1,hk2]
 have hNn:jZ ⟨kd,ca,cb⟩ n=n:=by simp[jZ,hk2]
 rw[hE,hNn];have HF:Hid (fl F p n w (.returned (.tuple #[])) (w.alloc (.cells #[.int .i64 kd,.int .u64 (ca:Int),.int .u64 (cb:Int)] 84))):=⟨rfl,⟨v,hS1⟩,hK1⟩;clear hS hba hX hS1 hK1 hE hNn HUp HLo;go_wp2;go_end0;exact HF.out
theorem Cp(l:List K)(c:K):∀n,fR (l++[c]) n=jZ c (fR l n):=by
 induction l with
 |nil=>intro n;rfl
 |cons x l ih=>intro n;simp only[aO,fR];exact ih _
theorem CD(l:List K)(c:K)(fail:Int):∀i n,ja (l++[c]) i fail n=ja l i fail n++gO c (16+8*(i+(l.length:Int))) fail (fR l n+1) (iS c (fR l n)+1):=by
 induction l with
 |nil=>intro i n;simp[ja,fR]
 |cons x l ih=>
  intro i n;simp only[aO,ja,fR,aF];rw[ih];congr 2;simp only[aq];congr 1;omega
theorem Ir(c:K)(n:Int):jZ c n<=n+2:=by
 unfold jZ iS
 repeat' split
 all_goals omega
theorem oB(l:List K):∀n,fR l n<=n+2*(l.length:Int):=by
 induction l with
 |nil=>intro n;simp[fR]
 |cons c l ih=>intro n;have:=ih (jZ c n);have:=Ir c n;simp only[fR,aq];omega
theorem lR(l:List K)(fail:Int):∀i n,(ja l i fail n).length<=12*l.length:=by
 induction l with
 |nil=>intro i n;simp[ja]
 |cons c l ih=>intro i n;have:=ih (i+1) (jZ c n);have:=si c (16+8*i) fail (n+1) (iS c n+1);simp only[ja,aj,aq];omega
theorem nz{l:List α}(h:k<l.length)(z:α):l.take (k+1)=l.take k++[l.getD k z]:=by
 rw[List.take_succ_eq_append_getElem h,aa,ag h];rfl
theorem AG(w0 w:World)(F:Nat)(v:Value)(p:List It)(n:Int)(r:List K)(a:Option Addr)(cap:Nat)(fail:Int)(hS:WrS w F v p n)(hn:p.length<=700000)(hs:eS 3 PK w0 a r)(hb0:Below w0.heap.size w0 w)(hF:w0.heap.size<=F)(ho:okR r)(hr:r.length<=6)(hn0:0<=n)(hn1:n<=700000):
 Calls Tryz.prog 141 #[.pointer (some ⟨F,0,none⟩),.agg #[.slice a r.length cap],.int .i64 fail] w fun e w'=>fl F (p++jN r fail n) (fR r n) w e w':=by
 have hlt:=hS.lt;have HC:Hid (∀k w1 v1,k<r.length->WrS w1 F v1 (p++ja (r.take k) 0 fail n) (fR (r.take k) n)->Calls Tryz.prog 158 #[.pointer (some ⟨F,0,none⟩),fC (r.getD k K.zero),.int .i64 (16+8*(k:Int)),.int .i64 fail] w1 fun e w'=>e=.returned (.tuple #[])∧(∃v',WrS w' F v' (p++ja (r.take (k+1)) 0 fail n) (fR (r.take (k+1)) n))∧KW F w1 w'):=fun k w1 v1 hk h=>by
  have hl:(r.take k).length=k:=by simp;omega
  have h1:=lR (r.take k) fail 0 n;have h2:=oB (r.take k) n;have h3:=kZ (r.take k) n;rw[hl]at h1 h2;have e1:p++ja (r.take (k+1)) 0 fail n=p++ja (r.take k) 0 fail n++gO (r.getD k K.zero) (16+8*(k:Int)) fail (fR (r.take k) n+1) (iS (r.getD k K.zero) (fR (r.take k) n)+1):=by
   rw[nz hk K.zero,CD,hl,aF,Int.zero_add]
  have e2:fR (r.take (k+1)) n=jZ (r.getD k K.zero) (fR (r.take k) n):=by rw[nz hk K.zero,Cp]
  rw[e1,e2];exact wF w1 F v1 _ _ (r.getD k K.zero) (16+8*(k:Int)) fail h (by simp only[aj];omega) (by omega) (by omega) (ti ho k) (by omega) (by omega)
 have HI:Hid (∀w1 v1,WrS w1 F v1 (p++ja r 0 fail n) (fR r n)->Calls Tryz.prog 59 #[.pointer (some ⟨F,0,none⟩),.int .u16 6,.int .u32 2147418112] w1 fun e w'=>e=.returned (.tuple #[])∧(∃v',WrS w' F v' (p++jN r fail n) (fR r n))∧KW F w1 w'):=fun w1 v1 h=>by
  have h1:=lR r fail 0 n;have:=tZ w1 F v1 (p++ja r 0 fail n) (fR r n) 6 2147418112 h (by simp only[aj];omega);rw[aF]at this;exact this
 have HP:Hid (∀wr,KW F w wr->∀i,i<r.length->∃b o,a=some ⟨b,o,none⟩∧b<wr.heap.size∧PK wr b (o+i*3) (r.getD i K.zero)):=fun wr hB i hi=>(hs.below PK.stays (hb0.trans (hB.b.mono hF))).at hi K.zero
 have HPo:Hid (∀w' v',WrS w' F v' (p++jN r fail n) (fR r n)->KW F w w'->fl F (p++jN r fail n) (fR r n) w (.returned (.tuple #[])) w'):=fun w' v' h2 h3=>⟨rfl,⟨v',h2⟩,h3⟩
 have HT0:Hid (p++ja (r.take 0) 0 fail n=p∧fR (r.take 0) n=n):=⟨by rw[List.take_zero];exact bM _,by rw[List.take_zero];rfl⟩;have HTn:Hid (p++ja (r.take r.length) 0 fail n=p++ja r 0 fail n∧fR (r.take r.length) n=fR r n):=by show _∧_;rw[ct];exact⟨rfl,rfl⟩
 generalize p++jN r fail n=pr at*;generalize p++ja r 0 fail n=pc at*;generalize fR r n=nr at*;obtain⟨pk,hpk⟩:∃pk:Nat->List It,∀k,p++ja (r.take k) 0 fail n=pk k:=⟨_,fun _=>rfl⟩;obtain⟨nk,hnk⟩:∃nk:Nat->Int,∀k,fR (r.take k) n=nk k:=⟨_,fun _=>rfl⟩;simp only[hpk,hnk]at HC HT0 HTn;clear hpk hnk ho hs hb0;generalize r.length=m at*;have hba:Below w.heap.size w (w.alloc (.cells #[.slice a m cap] 57)):=(af _ _).alloc (ae _) _;have hS1:=hS.ey hba;have hK1:KW F w (w.alloc (.cells #[.slice a m cap] 57)):=KW.gG hba (bJ hlt);have HS1:Hid (WrS (w.alloc (.cells #[.slice a m cap] 57)) F v p n):=hS1;have HK1:Hid (KW F w (w.alloc (.cells #[.slice a m cap] 57))):=hK1;clear hS hS1 hK1 hba;go_enter Tryz.func141,Tryz.ntmps141;go_wp2_with fail;go_loopw [11](fun i wr=>∃(k:Nat)(v1:Value),k<=m∧i=.int .i64 k∧Hid (WrS wr F v1 (pk k) (nk k))∧Hid (KW F w wr))(fun i _=>m-(intOf i).toNat)
 case atStart=>exact⟨0,v,by omega,rfl,by show WrS _ _ _ _ _;rw[HT0.out.1,HT0.out.2];exact HS1.out,HK1.out⟩
 case round=>
  obtain⟨k,v1,hk,rfl,hW,hK⟩:=hrel;by_cases hkn:k<m
  ·obtain⟨b,o,rfl,hltb,c0,c1,c2⟩:=HP.out wr hK.out k hkn;have hkn':(k:Int)<(m:Int):=by omega
   have hw8:IntKind.i64.wrap (8*(k:Int))=8*(k:Int):=by rw[aT];omega
   have hw16:IntKind.i64.wrap (16+8*(k:Int))=16+8*(k:Int):=by rw[aT];omega
   have HC1:Hid (∀w1 v1,WrS w1 F v1 (pk k) (nk k)->Calls Tryz.prog 158 #[.pointer (some ⟨F,0,none⟩),fC (r.getD k K.zero),.int .i64 (16+8*(k:Int)),.int .i64 fail] w1 fun e w'=>e=.returned (.tuple #[])∧(∃v',WrS w' F v' (pk (k+1)) (nk (k+1)))∧KW F w1 w'):=fun w1 v1 h=>HC.out k w1 v1 hkn h
   generalize r.getD k K.zero=c at*;obtain⟨ck,ca,cb⟩:=c;simp only at c0 c1 c2;simp only[fC]at HC1;have hbw:Below wr.heap.size wr (wr.alloc (.cells #[.int .i64 ck,.int .u64 (ca:Int),.int .u64 (cb:Int)] 84)):=(af _ _).alloc (ae _) _;have HW2:Hid (WrS (wr.alloc (.cells #[.int .i64 ck,.int .u64 (ca:Int),.int .u64 (cb:Int)] 84)) F v1 (pk k) (nk k)):=hW.out.ey hbw;have HK2:Hid (KW F w (wr.alloc (.cells #[.int .i64 ck,.int .u64 (ca:Int),.int .u64 (cb:Int)] 84))):=hK.out.trans (KW.gG hbw (bJ hW.out.lt));clear HC HP HI HPo HT0 HTn hW hK hbw HS1 HK1;go_wp2_with fail;refine(HC1.out _ v1 HW2.out).mono ?_;rintro _ w1⟨rfl,⟨v2,hS2⟩,hK3⟩;have HW3:Hid (WrS w1 F v2 (pk (k+1)) (nk (k+1))):=hS2;have HK3:Hid (KW F w w1):=HK2.out.trans hK3;clear hS2 hK3 HC1 HW2 HK2 c0 c1 c2;go_wp2;go_roundw
   case rel=>exact⟨k+1,v2,by omega,by go_num,HW3,HK3⟩
   case measure=>simp[intOf];omega
  have hk':k=m:=by omega
  subst hk';have hWk:=hW.out;rw[HTn.out.1,HTn.out.2]at hWk;clear HC HP HT0 HTn HS1 HK1 hW;go_wp2_with fail;refine(HI.out _ v1 hWk).mono ?_;rintro _ w1⟨rfl,⟨v2,hS2⟩,hK3⟩;have HF:Hid (fl F pr nr w (.returned (.tuple #[])) w1):=HPo.out w1 v2 hS2 (hK.out.trans hK3);clear hS2 hK3 HI HPo hWk hK;go_wp2;go_end0;exact HF.out
def iF:List (List K)->Int->Int
 |[],n=>n
 |r::l,n=>iF l (fR r (n+1))
def mx:List (List K)->Int->List It
 |[],_=>[]
 |r::l,n=>(jN r (n+1) (n+1)++[fe (n+1)])++mx l (fR r (n+1))
theorem Eo(l:List (List K))(r:List K):∀n,iF (l++[r]) n=fR r (iF l n+1):=by
 induction l with
 |nil=>intro n;rfl
 |cons x l ih=>intro n;simp only[aO,iF];exact ih _
theorem DS(l:List (List K))(r:List K):∀n,mx (l++[r]) n=mx l n++(jN r (iF l n+1) (iF l n+1)++[fe (iF l n+1)]):=by
 induction l with
 |nil=>intro n;simp[mx,iF]
 |cons x l ih=>intro n;simp only[aO,mx,iF,aF];rw[ih]
theorem Ch(l:List (List K))(r:List K):∀n,jw (l++[r]) n=mx l n++jN r 0 (iF l n)∧jC (l++[r]) n=fR r (iF l n):=by
 induction l with
 |nil=>intro n;exact⟨rfl,rfl⟩
 |cons x l ih=>
  intro n;obtain⟨h1,h2⟩:=ih (fR x (n+1))
  cases l with
  |nil=>exact⟨by simp only[bp]at h1;simp only[aO,bp,jw,mx,iF,bM],by simp only[aO,bp,jC,iF]⟩
  |cons y l=>
   simp only[aO]at h1 h2;refine⟨?_,?_⟩
   ·simp only[aO,jw];rw[h1];simp only[mx,iF,aF]
   simp only[aO,jC];rw[h2];simp only[iF]
theorem xZ(l:List (List K)):∀n,n<=iF l n:=by
 induction l with
 |nil=>intro n;exact ba _
 |cons r l ih=>intro n;have:=ih (fR r (n+1));have:=kZ r (n+1);simp only[iF];omega
theorem yt(l:List (List K))(h:∀r∈l,r.length<=6):∀n,iF l n<=n+13*(l.length:Int):=by
 induction l with
 |nil=>intro n;simp[iF]
 |cons r l ih=>
  intro n;have h1:=ih (fun x hx=>h x (bo _ hx)) (fR r (n+1));have h2:=oB r (n+1);have h3:=h r (aY ..);simp only[iF,aq];omega
theorem ve(l:List (List K))(h:∀r∈l,r.length<=6):∀n,(mx l n).length<=74*l.length:=by
 induction l with
 |nil=>intro n;simp[mx]
 |cons r l ih=>
  intro n;have h1:=ih (fun x hx=>h x (bo _ hx)) (fR r (n+1));have h2:=lR r (n+1) 0 (n+1);have h3:=h r (aY ..);simp only[mx,jN,aj,aq,aU];omega
theorem ER{x:Value}{t:TypeId}{f:Nat×Nat}(h:w.heap[b]? =some (.cells #[x] t f)):w.cell? ⟨b,0,none⟩=some x:=by
 unfold World.cell?;simp only[h];rfl
theorem Bf(w0 w:World)(F:Nat)(v:Value)(p:List It)(n:Int)(l:List (List K))(a:Option Addr)(cap:Nat)(hS:WrS w F v p n)(hn:p.length<=500000)(hs:eS 1 PR w0 a l)(hb0:Below w0.heap.size w0 w)(hF:w0.heap.size<=F)(ho:uC l)(h6:∀r∈l,r.length<=6)(hl1:1<=l.length)(hl2:l.length<=1000)(hcap:l.length<=cap)(hn0:0<=n)(hn1:n<=500000):
 Calls Tryz.prog 125 #[.pointer (some ⟨F,0,none⟩),.slice a l.length cap] w fun e w'=>fl F (p++jw l n) (jC l n) w e w':=by
 have hlt:=hS.lt;obtain⟨m,hm⟩:∃m,l.length=m+1:=⟨l.length-1,by omega⟩;have hlast:l=l.take m++[l.getD m []]:=by
  have h1:=nz (l:=l) (k:=m) (by omega) [];rw[<-hm,ct]at h1;exact h1
 have h6t:∀k,∀r∈l.take k,r.length<=6:=fun k r hr=>h6 r (aB hr)
 have h6g:∀k,(l.getD k []).length<=6:=fun k=>by
  rw[aa]
  cases e:l[k]? with
  |none=>simp
  |some r=>exact h6 r (dr e)
 have hog:∀k,okR (l.getD k []):=fun k=>by
  rw[aa]
  cases e:l[k]? with
  |none=>intro c hc;simp at hc
  |some r=>exact ho r (dr e)
 have HN:Hid (∀k w1 v1,k<=m->WrS w1 F v1 (p++mx (l.take k) n) (iF (l.take k) n)->Calls Tryz.prog 95 #[.pointer (some ⟨F,0,none⟩)] w1 fun e w'=>e=.returned (.int .i64 (iF (l.take k) n+1))∧WrS w' F v1 (p++mx (l.take k) n) (iF (l.take k) n+1)∧KW F w1 w'):=fun k w1 v1 hk h=>by
  have g1:=xZ (l.take k) n;have g2:=yt (l.take k) (h6t k) n;have hl:(l.take k).length=k:=by simp;omega
  rw[hl]at g2;exact kr w1 F v1 _ _ h (by omega) (by omega)
 have HR:Hid (∀k w1 v1 a' cap',k<m->eS 3 PK w0 a' (l.getD k [])->Below w0.heap.size w0 w1->WrS w1 F v1 (p++mx (l.take k) n) (iF (l.take k) n+1)->Calls Tryz.prog 141 #[.pointer (some ⟨F,0,none⟩),.agg #[.slice a' (l.getD k []).length cap'],.int .i64 (iF (l.take k) n+1)] w1 fun e w'=>e=.returned (.tuple #[])∧(∃v',WrS w' F v' (p++mx (l.take k) n++jN (l.getD k []) (iF (l.take k) n+1) (iF (l.take k) n+1)) (iF (l.take (k+1)) n))∧KW F w1 w'):=fun k w1 v1 a' cap' hk hsk hb h=>by
  have g1:=xZ (l.take k) n;have g2:=yt (l.take k) (h6t k) n;have g3:=ve (l.take k) (h6t k) n;have hl:(l.take k).length=k:=by simp;omega
  rw[hl]at g2 g3;have e:iF (l.take (k+1)) n=fR (l.getD k []) (iF (l.take k) n+1):=by rw[nz (by omega) [],Eo]
  rw[e];exact AG w0 w1 F v1 _ _ (l.getD k []) a' cap' _ h (by simp only[aj];omega) hsk hb hF (hog k) (h6g k) (by omega) (by omega)
 have HB:Hid (∀k w1 v1,k<m->WrS w1 F v1 (p++mx (l.take k) n++jN (l.getD k []) (iF (l.take k) n+1) (iF (l.take k) n+1)) (iF (l.take (k+1)) n)->Calls Tryz.prog 58 #[.pointer (some ⟨F,0,none⟩),.int .i64 (iF (l.take k) n+1)] w1 fun e w'=>e=.returned (.tuple #[])∧(∃v',WrS w' F v' (p++mx (l.take (k+1)) n) (iF (l.take (k+1)) n))∧KW F w1 w'):=fun k w1 v1 hk h=>by
  have g3:=ve (l.take k) (h6t k) n;have g4:=lR (l.getD k []) (iF (l.take k) n+1) 0 (iF (l.take k) n+1);have g5:=h6g k;have hl:(l.take k).length=k:=by simp;omega
  rw[hl]at g3;have e:p++mx (l.take (k+1)) n=p++mx (l.take k) n++jN (l.getD k []) (iF (l.take k) n+1) (iF (l.take k) n+1)++[fe (iF (l.take k) n+1)]:=by rw[nz (by omega) [],DS];simp only[aF]
  rw[e];exact lO w1 F v1 _ _ _ h (by simp only[aj,jN,aq,aU];omega)
 have HL:Hid (∀w1 v1 a' cap',eS 3 PK w0 a' (l.getD m [])->Below w0.heap.size w0 w1->WrS w1 F v1 (p++mx (l.take m) n) (iF (l.take m) n)->Calls Tryz.prog 141 #[.pointer (some ⟨F,0,none⟩),.agg #[.slice a' (l.getD m []).length cap'],.int .i64 0] w1 fun e w'=>e=.returned (.tuple #[])∧(∃v',WrS w' F v' (p++jw l n) (jC l n))∧KW F w1 w'):=fun w1 v1 a' cap' hsk hb h=>by
  have g1:=xZ (l.take m) n;have g2:=yt (l.take m) (h6t m) n;have g3:=ve (l.take m) (h6t m) n;have hl:(l.take m).length=m:=by simp;omega
  rw[hl]at g2 g3;obtain⟨e1,e2⟩:=Ch (l.take m) (l.getD m []) n;rw[<-hlast]at e1 e2;rw[e1,e2,<-aF];exact AG w0 w1 F v1 _ _ (l.getD m []) a' cap' _ h (by simp only[aj];omega) hsk hb hF (hog m) (h6g m) (by omega) (by omega)
 have HP:Hid (∀wr,KW F w wr->∀i,i<m+1->∃b o a' cap',a=some ⟨b,o,none⟩∧b<wr.heap.size∧wr.cell? ⟨b,o+i,none⟩=some (.slice a' (l.getD i []).length cap')∧eS 3 PK w0 a' (l.getD i [])∧Below w0.heap.size w0 wr):=fun wr hB i hi=>by
  obtain⟨b,o,rfl,hb,a',cap',hc,hl⟩:=hs.at (i:=i) (by omega) [];have hbw:=hb0.trans (hB.b.mono hF);rw[bR]at hc;exact⟨b,o,a',cap',rfl,an hb hbw.size,(hbw.cell (p:=⟨b,_,none⟩) hb).trans hc,hl,hbw⟩
 have HPo:Hid (∀w' v',WrS w' F v' (p++jw l n) (jC l n)->KW F w w'->fl F (p++jw l n) (jC l n) w (.returned (.tuple #[])) w'):=fun w' v' h2 h3=>⟨rfl,⟨v',h2⟩,h3⟩
 have HT0:Hid (p++mx (l.take 0) n=p∧iF (l.take 0) n=n):=⟨by rw[List.take_zero];exact bM _,by rw[List.take_zero];rfl⟩;have HS0:Hid (WrS w F v p n):=hS;obtain⟨b,o,rfl⟩:∃b o,a=some ⟨b,o,none⟩:=by
  obtain⟨b,o,_,_,e,_⟩:=HP.out w (KW.refl _ _) 0 (by omega);exact⟨b,o,e⟩
 generalize p++jw l n=pb at*;generalize jC l n=nb at*;obtain⟨pk,hpk⟩:∃pk:Nat->List It,∀k,p++mx (l.take k) n=pk k:=⟨_,fun _=>rfl⟩;obtain⟨nk,hnk⟩:∃nk:Nat->Int,∀k,iF (l.take k) n=nk k:=⟨_,fun _=>rfl⟩;simp only[hpk,hnk]at HN HR HB HL HT0;obtain⟨pr,hpr⟩:∃pr:Nat->List It,∀k,pk k++jN (l.getD k []) (nk k+1) (nk k+1)=pr k:=⟨_,fun _=>rfl⟩;simp only[hpr]at HR HB;rw[hm]at hcap⊢;have hm2:m<=999:=by omega
 clear hpk hnk hpr ho hs hb0 hS hlast h6t h6g hog h6 hm hl1;have hmc:(m:Int)<=(cap:Int):=by omega
 have hw64:wrap64 (m:Int)=(m:Int):=by unfold wrap64;omega
 go_enter Tryz.func125,Tryz.ntmps125;go_wp2_with fail;go_loopw [15](fun i wr=>∃(k:Nat)(v1:Value),k<=m∧i=.int .i64 k∧Hid (WrS wr F v1 (pk k) (nk k))∧Hid (KW F w wr))(fun i _=>m-(intOf i).toNat)
 case atStart=>exact⟨0,v,by omega,rfl,by show WrS _ _ _ _ _;rw[HT0.out.1,HT0.out.2];exact HS0.out,KW.refl _ _⟩
 case round=>
  obtain⟨k,v1,hk,rfl,hW,hK⟩:=hrel;by_cases hkn:k<m
  ·obtain⟨b',o',a',cap',e,hltb,c0,hsk,_⟩:=HP.out wr hK.out k (by omega)
   cases e;have hkn':(k:Int)<(m:Int):=by omega
   have hbw:∀ob,Below wr.heap.size wr (wr.alloc ob):=fun ob=>(af _ _).alloc (ae _) ob
   have HN1:Hid (∀w1 v1,WrS w1 F v1 (pk k) (nk k)->Calls Tryz.prog 95 #[.pointer (some ⟨F,0,none⟩)] w1 fun e w'=>e=.returned (.int .i64 (nk k+1))∧WrS w' F v1 (pk k) (nk k+1)∧KW F w1 w'):=fun w1 v1 h=>HN.out k w1 v1 hk h
   have HR1:Hid (∀w1 v1,Below w0.heap.size w0 w1->WrS w1 F v1 (pk k) (nk k+1)->Calls Tryz.prog 141 #[.pointer (some ⟨F,0,none⟩),.agg #[.slice a' (l.getD k []).length cap'],.int .i64 (nk k+1)] w1 fun e w'=>e=.returned (.tuple #[])∧(∃v',WrS w' F v' (pr k) (nk (k+1)))∧KW F w1 w'):=fun w1 v1 hb h=>HR.out k w1 v1 a' cap' hkn hsk hb h
   have HB1:Hid (∀w1 v1,WrS w1 F v1 (pr k) (nk (k+1))->Calls Tryz.prog 58 #[.pointer (some ⟨F,0,none⟩),.int .i64 (nk k+1)] w1 fun e w'=>e=.returned (.tuple #[])∧(∃v',WrS w' F v' (pk (k+1)) (nk (k+1)))∧KW F w1 w'):=fun w1 v1 h=>HB.out k w1 v1 hkn h
   have HBw:Hid (∀wr,KW F w wr->Below w0.heap.size w0 wr):=fun wr h=>by
    obtain⟨_,_,_,_,_,_,_,_,hx⟩:=HP.out wr h 0 (by omega);exact hx
   generalize(l.getD k []).length=rl at*;have hX:=heap_alloc_new wr (.cells #[.slice a' rl cap'] 57);have HX:Hid (∀w1,KW F (wr.alloc (.cells #[.slice a' rl cap'] 57)) w1->w1.cell? ⟨wr.heap.size,0,none⟩=some (.slice a' rl cap')):=fun w1 h=>ER (h.f _ _ _ _ hX (by decide) (by decide))
   have HW2:Hid (WrS (wr.alloc (.cells #[.slice a' rl cap'] 57)) F v1 (pk k) (nk k)):=hW.out.ey (hbw _);have HK2:Hid (KW F w (wr.alloc (.cells #[.slice a' rl cap'] 57))):=hK.out.trans (KW.gG (hbw _) (bJ hW.out.lt));clear HN HR HB HL HPo HT0 HS0 hW hK hbw hX hsk;go_wp2_with fail;refine(HN1.out _ v1 HW2.out).mono ?_;rintro _ w1⟨rfl,hS2,hK3⟩;have b1:=HX.out w1 hK3;have HW3:Hid (WrS w1 F v1 (pk k) (nk k+1)):=hS2;have HK3:Hid (KW F w w1):=HK2.out.trans hK3;clear hS2 hK3 HN1 HW2 HK2 HX c0;go_wp2_with fail;refine(HR1.out _ v1 (HBw.out _ HK3.out) HW3.out).mono ?_;rintro _ w2⟨rfl,⟨v2,hS3⟩,hK4⟩;have HK4:Hid (KW F w w2):=HK3.out.trans hK4;clear hK4 HR1 HW3 HK3 b1;go_wp2_with fail;refine(HB1.out _ v2 hS3).mono ?_;rintro _ w3⟨rfl,⟨v3,hS4⟩,hK5⟩;have HK5:Hid (KW F w w3):=HK4.out.trans hK5;have HW5:Hid (WrS w3 F v3 (pk (k+1)) (nk (k+1))):=hS4;clear hS3 hS4 hK5 HK4 HB1;go_wp2;go_roundw
   case rel=>exact⟨k+1,v3,by omega,by go_num,HW5,HK5⟩
   case measure=>simp[intOf];omega
  have hk':k=m:=by omega
  subst hk';obtain⟨b',o',a',cap',e,hltb,c0,hsk,hbx⟩:=HP.out wr hK.out k (by omega)
  cases e;have HL1:Hid (∀w1 v1,Below w0.heap.size w0 w1->WrS w1 F v1 (pk k) (nk k)->Calls Tryz.prog 141 #[.pointer (some ⟨F,0,none⟩),.agg #[.slice a' (l.getD k []).length cap'],.int .i64 0] w1 fun e w'=>e=.returned (.tuple #[])∧(∃v',WrS w' F v' pb nb)∧KW F w1 w'):=fun w1 v1 hb h=>HL.out w1 v1 a' cap' hsk hb h
  have hk1:(k:Int)<(k:Int)+1:=by omega
  have hk2:(k:Int)<((k+1:Nat):Int):=by omega
  generalize(l.getD k []).length=rl at*;clear HN HR HB HL HT0 HS0 hsk HP;go_wp2_with fail;refine(HL1.out _ v1 hbx hW.out).mono ?_;rintro _ w1⟨rfl,⟨v2,hS2⟩,hK3⟩;have HF:Hid (fl F pb nb w (.returned (.tuple #[])) w1):=HPo.out w1 v2 hS2 (hK.out.trans hK3);clear hS2 hK3 HL1 HPo hW hK;go_wp2;go_end0;exact HF.out
theorem Fc(l:List (List K))(h:∀r∈l,r.length<=6):∀n,jC l n<=n+13*(l.length:Int):=by
 induction l with
 |nil=>intro n;simp[jC]
 |cons r l ih=>
  intro n;have h3:=h r (aY ..)
  cases l with
  |nil=>have:=oB r n;simp only[jC,aq,aU];omega
  |cons q l=>
   have h1:=ih (fun x hx=>h x (bo _ hx)) (fR r (n+1));have h2:=oB r (n+1);simp only[jC,aq]at h1⊢;omega
theorem Ek(l:List (List K))(h:∀r∈l,r.length<=6):∀n,(jw l n).length<=74*l.length:=by
 induction l with
 |nil=>intro n;simp[jw]
 |cons r l ih=>
  intro n;have h3:=h r (aY ..)
  cases l with
  |nil=>have:=lR r 0 0 n;simp only[jw,jN,aj,aq,aU];omega
  |cons q l=>
   have h1:=ih (fun x hx=>h x (bo _ hx)) (fR r (n+1));have h2:=lR r (n+1) 0 (n+1);simp only[jw,jN,aj,aq,aU]at h1⊢;omega
def WrE(e:E):Prop:=uC e.rules∧(∀r∈e.rules,r.length<=6)∧1<=e.rules.length∧e.rules.length<=1000
def gN(es:List E):Nat:=(es.map (fun e=>e.rules.length)).sum
theorem fX(es:List E)(k:Nat):gN es=gN (es.take k)+gN (es.drop k):=by
 unfold gN;rw[<-List.sum_append,<-bL,List.take_append_drop]
theorem ns(es:List E)(i:Nat):(es.getD i E.zero).rules.length<=gN es:=by
 induction es generalizing i with
 |nil=>simp[E.zero]
 |cons e es ih=>
  cases i with
  |zero=>simp[gN]
  |succ i=>have:=ih i;simp[gN]at this⊢;omega
theorem pV{es:List E}(h:∀e∈es,WrE e){i:Nat}(hi:i<es.length):WrE (es.getD i E.zero):=by
 rw[aa,ag hi];exact h _ (aI hi)
theorem kC(k:Nat):∀(es:List E)(n:Int),(∀e∈es,WrE e)->1<=es.length->es.length<=k->(fV k es n).length+2<=74*gN es+3*es.length∧fK k es n+1<=n+13*(gN es:Int)+(es.length:Int):=by
 induction k with
 |zero=>intro es n h h1 h2;omega
 |succ k ih=>
  intro es n h h1 h2;simp only[fV,fK];by_cases hl:es.length<=1
  ·rw[if_pos hl,if_pos hl];have hw:=pV h (i:=0) (by omega);have g1:=Ek _ hw.2.1 n;have g2:=Fc _ hw.2.1 n;have g3:=ns es 0;simp only[aq];omega
  rw[if_neg hl,if_neg hl];have ht:(es.take (es.length/2)).length=es.length/2:=by simp;omega
  have hd:(es.drop (es.length/2)).length=es.length-es.length/2:=by simp
  obtain⟨a1,a2⟩:=ih (es.take (es.length/2)) (n+1) (fun e he=>h e (aB he)) (by omega) (by omega);obtain⟨b1,b2⟩:=ih (es.drop (es.length/2)) (fK k (es.take (es.length/2)) (n+1)) (fun e he=>h e (aQ he)) (by omega) (by omega);have hs:=fX es (es.length/2);rw[ht]at a1 a2;rw[hd]at b1 b2;simp only[aj,aq,aU];omega
theorem eS.front{P:World->Nat->Nat->α->Prop}{a:Option Addr}{l:List α}(h:eS k P w a l)(n:Nat):eS k P w a (l.take n):=by
 rcases h with rfl|⟨b,o,rfl,hb,hl⟩
 ·exact .inl (by simp)
 refine .inr ⟨b,o,rfl,hb,fun i hi=> ?_⟩;have:=hl i (by simp at hi;omega);simpa using this
theorem eS.back{P:World->Nat->Nat->α->Prop}{o:Nat}{l:List α}(h:eS k P w (some ⟨b,o,none⟩) l)(n:Nat):eS k P w (some ⟨b,o+n*k,none⟩) (l.drop n):=by
 rcases h with rfl|⟨b',o',e,hb,hl⟩
 ·exact .inl (by simp)
 cases e;refine .inr ⟨b,o+n*k,rfl,hb,fun i hi=> ?_⟩;have:=hl (n+i) (by simp at hi;omega);rw[cT,<-cX]at this;simpa using this
theorem FE(w0:World)(F:Nat)(hF:w0.heap.size<=F)(k:Nat):∀(w:World)(v:Value)(p:List It)(n:Int)(es:List E)(b o cap:Nat),WrS w F v p n->eS 3 PEC w0 (some ⟨b,o,none⟩) es->Below w0.heap.size w0 w->(∀e∈es,WrE e)->1<=es.length->es.length<=k->es.length<=cap->p.length+(74*gN es+3*es.length)<=400000->0<=n->n+13*(gN es:Int)+(es.length:Int)<=400000->
 Calls Tryz.prog 97 #[.pointer (some ⟨F,0,none⟩),.slice (some ⟨b,o,none⟩) es.length cap] w fun e w'=>fl F (p++fV k es n) (fK k es n) w e w':=by
 induction k with
 |zero=>intro w v p n es b o cap _ _ _ _ h1 h2;omega
 |succ k ih=>
  intro w v p n es b o cap hS hs hb0 hE hl1 hlk hcap hpb hn0 hnb;by_cases hone:es.length<=1
  ·have hlen:es.length=1:=by omega
   have hw:=pV hE (i:=0) (by omega);have g3:=ns es 0;obtain⟨b',o',e,hb,c0,c1,a',cap',c2,hcc,hls⟩:=hs.at (i:=0) (by omega) E.zero
   cases e;simp only[dQ,cA]at c0 c1 c2;have HX:Hid (∀w1,KW F w w1->Below w0.heap.size w0 w1∧w1.cell? ⟨b,o+1,none⟩=some (.int .u32 (es.getD 0 E.zero).nr)∧w1.cell? ⟨b,o+2,none⟩=some (.slice a' (es.getD 0 E.zero).rules.length cap')):=fun w1 h=>by
    have hx:=hb0.trans (h.b.mono hF);exact⟨hx,(hx.cell (p:=⟨b,_,none⟩) hb).trans c1,(hx.cell (p:=⟨b,_,none⟩) hb).trans c2⟩
   have hE1:p++fV (k+1) es n=p++[fq 21 (es.getD 0 E.zero).nr 0]++jw (es.getD 0 E.zero).rules n:=by simp only[fV];rw[if_pos hone];simp
   have hE2:fK (k+1) es n=jC (es.getD 0 E.zero).rules n:=by simp only[fK];rw[if_pos hone]
   have HU:Hid (Calls Tryz.prog 96 #[.pointer (some ⟨F,0,none⟩),.int .u16 21,.int .u32 (es.getD 0 E.zero).nr,.int .i64 0] w fun e w'=>e=.returned (.tuple #[])∧(∃v',WrS w' F v' (p++[fq 21 (es.getD 0 E.zero).nr 0]) n)∧KW F w w'):=kh w F v p n 21 _ 0 hS (by omega);have HR:Hid (∀w1 v1,Below w0.heap.size w0 w1->WrS w1 F v1 (p++[fq 21 (es.getD 0 E.zero).nr 0]) n->Calls Tryz.prog 125 #[.pointer (some ⟨F,0,none⟩),.slice a' (es.getD 0 E.zero).rules.length cap'] w1 fun e w'=>e=.returned (.tuple #[])∧(∃v',WrS w' F v' (p++[fq 21 (es.getD 0 E.zero).nr 0]++jw (es.getD 0 E.zero).rules n) (jC (es.getD 0 E.zero).rules n))∧KW F w1 w'):=fun w1 v1 hb1 h=>Bf w0 w1 F v1 _ n _ a' cap' h (by simp;omega) hls hb1 hF hw.1 hw.2.1 hw.2.2.1 hw.2.2.2 hcc hn0 (by omega)
   rw[hE1,hE2];have HPo:Hid (∀w' v',WrS w' F v' (p++[fq 21 (es.getD 0 E.zero).nr 0]++jw (es.getD 0 E.zero).rules n) (jC (es.getD 0 E.zero).rules n)->KW F w w'->fl F (p++[fq 21 (es.getD 0 E.zero).nr 0]++jw (es.getD 0 E.zero).rules n) (jC (es.getD 0 E.zero).rules n) w (.returned (.tuple #[])) w'):=fun w' v' h2 h3=>⟨rfl,⟨v',h2⟩,h3⟩
   obtain⟨_,d1,d2⟩:=HX.out w (KW.refl _ _);rw[hlen];generalize p++[fq 21 (es.getD 0 E.zero).nr 0]++jw (es.getD 0 E.zero).rules n=q2 at*;generalize p++[fq 21 (es.getD 0 E.zero).nr 0]=q1 at*;generalize jC (es.getD 0 E.zero).rules n=n2 at*;generalize(es.getD 0 E.zero).rules.length=rl at*;generalize(es.getD 0 E.zero).nr=nr at*;clear hS hs hb0 hE ih hpb hnb hE1 hE2 c0 c1 c2 hls hw;go_enter Tryz.func97,Tryz.ntmps97;go_wp2_with fail;refine(HU.out).mono ?_;rintro _ w1⟨rfl,⟨v1,hS1⟩,hK1⟩;obtain⟨hb1,e1,e2⟩:=HX.out w1 hK1;go_wp2_with fail;refine(HR.out _ v1 hb1 hS1).mono ?_;rintro _ w2⟨rfl,⟨v2,hS2⟩,hK2⟩;have HF:Hid (fl F q2 n2 w (.returned (.tuple #[])) w2):=HPo.out w2 v2 hS2 (hK1.trans hK2);clear HU HR HPo HX hS1 hS2 hK1 hK2 d1 d2 e1 e2;go_wp2;exact bodyPost_ret (v:=.tuple #[]) (by simp[results,Tryz.results97]) rfl HF.out
  have hlen:2<=es.length:=by omega
  obtain⟨h,hh⟩:∃h,es.length/2=h:=⟨_,rfl⟩;have hh1:1<=h∧h<es.length∧h<=k∧es.length-h<=k:=by omega
  have ht:(es.take h).length=h:=by simp;omega
  have hd:(es.drop h).length=es.length-h:=by simp
  have hsp:=fX es h;obtain⟨f1,f2⟩:=kC k (es.take h) (n+1) (fun e he=>hE e (aB he)) (by omega) (by omega);have f3:=kj k (es.take h) (n+1);rw[ht]at f1 f2;have hE1:p++fV (k+1) es n=p++[fW 53 (es.getD h E.zero).nr (n+1)]++fV k (es.take h) (n+1)++[fe (n+1)]++fV k (es.drop h) (fK k (es.take h) (n+1)):=by simp only[fV];rw[if_neg hone,hh];simp
  have hE2:fK (k+1) es n=fK k (es.drop h) (fK k (es.take h) (n+1)):=by simp only[fK];rw[if_neg hone,hh]
  obtain⟨b',o',e,hb,_,c1,_⟩:=hs.at (i:=h) (by omega) E.zero
  cases e;have HX:Hid (∀w1,KW F w w1->Below w0.heap.size w0 w1∧w1.cell? ⟨b,o+h*3+1,none⟩=some (.int .u32 (es.getD h E.zero).nr)):=fun w1 g=>by
   have hx:=hb0.trans (g.b.mono hF);exact⟨hx,(hx.cell (p:=⟨b,_,none⟩) hb).trans c1⟩
  have HN:Hid (Calls Tryz.prog 95 #[.pointer (some ⟨F,0,none⟩)] w fun e w'=>e=.returned (.int .i64 (n+1))∧WrS w' F v p (n+1)∧KW F w w'):=kr w F v p n hS hn0 (by omega);have HI:Hid (∀w1 v1,WrS w1 F v1 p (n+1)->Calls Tryz.prog 126 #[.pointer (some ⟨F,0,none⟩),.int .u16 53,.int .u32 (es.getD h E.zero).nr,.int .i64 (n+1)] w1 fun e w'=>e=.returned (.tuple #[])∧(∃v',WrS w' F v' (p++[fW 53 (es.getD h E.zero).nr (n+1)]) (n+1))∧KW F w1 w'):=fun w1 v1 g=>vd w1 F v1 p (n+1) 53 _ (n+1) g (by omega)
  have HT1:Hid (∀w1 v1 c',h<=c'->Below w0.heap.size w0 w1->WrS w1 F v1 (p++[fW 53 (es.getD h E.zero).nr (n+1)]) (n+1)->Calls Tryz.prog 97 #[.pointer (some ⟨F,0,none⟩),.slice (some ⟨b,o,none⟩) h c'] w1 fun e w'=>e=.returned (.tuple #[])∧(∃v',WrS w' F v' (p++[fW 53 (es.getD h E.zero).nr (n+1)]++fV k (es.take h) (n+1)) (fK k (es.take h) (n+1)))∧KW F w1 w'):=fun w1 v1 c' hc' hb1 g=>by
   have:=ih w1 v1 (p++[fW 53 (es.getD h E.zero).nr (n+1)]) (n+1) (es.take h) b o c' g (hs.front h) hb1 (fun e he=>hE e (aB he)) (by omega) (by omega) (by omega) (by rw[ht];simp;omega) (by omega) (by rw[ht];omega);rw[ht]at this;exact this
  have HB:Hid (∀w1 v1,WrS w1 F v1 (p++[fW 53 (es.getD h E.zero).nr (n+1)]++fV k (es.take h) (n+1)) (fK k (es.take h) (n+1))->Calls Tryz.prog 58 #[.pointer (some ⟨F,0,none⟩),.int .i64 (n+1)] w1 fun e w'=>e=.returned (.tuple #[])∧(∃v',WrS w' F v' (p++[fW 53 (es.getD h E.zero).nr (n+1)]++fV k (es.take h) (n+1)++[fe (n+1)]) (fK k (es.take h) (n+1)))∧KW F w1 w'):=fun w1 v1 g=>lO w1 F v1 _ _ _ g (by simp;omega)
  have HT2:Hid (∀w1 v1 c',es.length-h<=c'->Below w0.heap.size w0 w1->WrS w1 F v1 (p++[fW 53 (es.getD h E.zero).nr (n+1)]++fV k (es.take h) (n+1)++[fe (n+1)]) (fK k (es.take h) (n+1))->Calls Tryz.prog 97 #[.pointer (some ⟨F,0,none⟩),.slice (some ⟨b,o+h*3,none⟩) (es.length-h) c'] w1 fun e w'=>e=.returned (.tuple #[])∧(∃v',WrS w' F v' (p++[fW 53 (es.getD h E.zero).nr (n+1)]++fV k (es.take h) (n+1)++[fe (n+1)]++fV k (es.drop h) (fK k (es.take h) (n+1))) (fK k (es.drop h) (fK k (es.take h) (n+1))))∧KW F w1 w'):=fun w1 v1 c' hc' hb1 g=>by
   have:=ih w1 v1 _ _ (es.drop h) b (o+h*3) c' g (hs.back h) hb1 (fun e he=>hE e (aQ he)) (by omega) (by omega) (by omega) (by rw[hd];simp;omega) (by omega) (by rw[hd];omega);rw[hd]at this;exact this
  rw[hE1,hE2];have HPo:Hid (∀w' v',WrS w' F v' (p++[fW 53 (es.getD h E.zero).nr (n+1)]++fV k (es.take h) (n+1)++[fe (n+1)]++fV k (es.drop h) (fK k (es.take h) (n+1))) (fK k (es.drop h) (fK k (es.take h) (n+1)))->KW F w w'->fl F (p++[fW 53 (es.getD h E.zero).nr (n+1)]++fV k (es.take h) (n+1)++[fe (n+1)]++fV k (es.drop h) (fK k (es.take h) (n+1))) (fK k (es.drop h) (fK k (es.take h) (n+1))) w (.returned (.tuple #[])) w'):=fun w' v' h2 h3=>⟨rfl,⟨v',h2⟩,h3⟩
  generalize p++[fW 53 (es.getD h E.zero).nr (n+1)]++fV k (es.take h) (n+1)++[fe (n+1)]++fV k (es.drop h) (fK k (es.take h) (n+1))=q4 at*;generalize p++[fW 53 (es.getD h E.zero).nr (n+1)]++fV k (es.take h) (n+1)++[fe (n+1)]=q3 at*;generalize p++[fW 53 (es.getD h E.zero).nr (n+1)]++fV k (es.take h) (n+1)=q2 at*;generalize p++[fW 53 (es.getD h E.zero).nr (n+1)]=q1 at*;generalize fK k (es.drop h) (fK k (es.take h) (n+1))=n3 at*;generalize fK k (es.take h) (n+1)=n2 at*;generalize(es.getD h E.zero).nr=nr at*;have HS:Hid (WrS w F v p n):=hS;have hm4:es.length<=400000:=by omega
  clear hS hs hb0 hE ih hpb hnb hE1 hE2 c1 hsp f1 f2 f3 ht hd;generalize es.length=m at*;have hq:(m:Int)/2=(h:Int):=by omega
  have hm1:((m:Int)==1)=false:=by simp;omega
  have hm1':¬(m:Int)=1:=by omega
  have hm1n:¬m=1:=by omega
  have hhc:(h:Int)<=(cap:Int):=by omega
  have hhm:(h:Int)<=(m:Int):=by omega
  have hhm':(h:Int)<(m:Int):=by omega
  have hch:¬cap=h:=by omega
  obtain⟨hh0,hh2,hh3,hh4⟩:=hh1;clear hone hlk hl1 hh hlen;go_enter Tryz.func97,Tryz.ntmps97;go_wp2_with fail;refine(HN.out).mono ?_;rintro _ w1⟨rfl,hS1,hK1⟩;obtain⟨hb1,d1⟩:=HX.out w1 hK1;have HK1:Hid (KW F w w1):=hK1;have HS1:Hid (WrS w1 F v p (n+1)):=hS1;clear HN hK1 hS1 HS;go_wp2_with fail;refine(HI.out _ v HS1.out).mono ?_;rintro _ w2⟨rfl,⟨v2,hS2⟩,hK2⟩;have HK2:Hid (KW F w w2):=HK1.out.trans hK2;have HS2:Hid (WrS w2 F v2 q1 (n+1)):=hS2;have HB2:Hid (Below w0.heap.size w0 w2):=(HX.out w2 HK2.out).1;clear HI hS2 hK2 HK1 HS1 d1 hb1;go_wp2_with fail;refine(HT1.out _ v2 _ (by omega) HB2.out HS2.out).mono ?_;rintro _ w3⟨rfl,⟨v3,hS3⟩,hK3⟩;have HK3:Hid (KW F w w3):=HK2.out.trans hK3;have HS3:Hid (WrS w3 F v3 q2 n2):=hS3;clear HT1 hS3 hK3 HK2 HS2 HB2;go_wp2_with fail;refine(HB.out _ v3 HS3.out).mono ?_;rintro _ w4⟨rfl,⟨v4,hS4⟩,hK4⟩;have HK4:Hid (KW F w w4):=HK3.out.trans hK4;have HS4:Hid (WrS w4 F v4 q3 n2):=hS4;have HB4:Hid (Below w0.heap.size w0 w4):=(HX.out w4 HK4.out).1;clear HB hS4 hK4 HK3 HS3;go_wp2_with fail;refine(HT2.out _ v4 _ (by omega) HB4.out HS4.out).mono ?_;rintro _ w5⟨rfl,⟨v5,hS5⟩,hK5⟩;have HF:Hid (fl F q4 n3 w (.returned (.tuple #[])) w5):=HPo.out w5 v5 hS5 (HK4.out.trans hK5);clear HT2 hS5 hK5 HK4 HS4 HB4 HPo HX;go_wp2;go_end0;exact HF.out
theorem wT(w0 w:World)(F:Nat)(hF:w0.heap.size<=F)(k:Nat)(v:Value)(p:List It)(n:Int)(es:List E)(b o cap:Nat)(hS:WrS w F v p n)(hs:eS 3 PEC w0 (some ⟨b,o,none⟩) es)(hb0:Below w0.heap.size w0 w)(hE:∀e∈es,WrE e)(hl1:1<=es.length)(hlk:es.length<=k)(hcap:es.length<=cap)(hpb:p.length+(74*gN es+3*es.length)<=300000)(hn0:0<=n)(hnb:n+13*(gN es:Int)+(es.length:Int)<=300000):
 Calls Tryz.prog 57 #[.pointer (some ⟨F,0,none⟩),.slice (some ⟨b,o,none⟩) es.length cap] w fun e w'=>fl F (p++(fq 21 (es.getD 0 E.zero).et (n+1)::fi 0::fV k es (n+1)++[fe (n+1)])) (fK k es (n+1)) w e w':=by
 obtain⟨f1,f2⟩:=kC k es (n+1) hE hl1 hlk;have f3:=kj k es (n+1);obtain⟨b',o',e,hb,c0,_,_⟩:=hs.at (i:=0) (by omega) E.zero
 cases e;simp only[dQ,cA]at c0;have HX:Hid (∀w1,KW F w w1->Below w0.heap.size w0 w1∧w1.cell? ⟨b,o,none⟩=some (.int .u32 (es.getD 0 E.zero).et)):=fun w1 g=>by
  have hx:=hb0.trans (g.b.mono hF);exact⟨hx,(hx.cell (p:=⟨b,_,none⟩) hb).trans c0⟩
 have hE1:p++(fq 21 (es.getD 0 E.zero).et (n+1)::fi 0::fV k es (n+1)++[fe (n+1)])=p++[fq 21 (es.getD 0 E.zero).et (n+1)]++[fi 0]++fV k es (n+1)++[fe (n+1)]:=by simp
 rw[hE1];have HN:Hid (Calls Tryz.prog 95 #[.pointer (some ⟨F,0,none⟩)] w fun e w'=>e=.returned (.int .i64 (n+1))∧WrS w' F v p (n+1)∧KW F w w'):=kr w F v p n hS hn0 (by omega);have HU:Hid (∀w1 v1,WrS w1 F v1 p (n+1)->Calls Tryz.prog 96 #[.pointer (some ⟨F,0,none⟩),.int .u16 21,.int .u32 (es.getD 0 E.zero).et,.int .i64 (n+1)] w1 fun e w'=>e=.returned (.tuple #[])∧(∃v',WrS w' F v' (p++[fq 21 (es.getD 0 E.zero).et (n+1)]) (n+1))∧KW F w1 w'):=fun w1 v1 g=>kh w1 F v1 p (n+1) 21 _ (n+1) g (by omega)
 have HL:Hid (∀w1 v1,WrS w1 F v1 (p++[fq 21 (es.getD 0 E.zero).et (n+1)]) (n+1)->Calls Tryz.prog 55 #[.pointer (some ⟨F,0,none⟩),.int .i64 0] w1 fun e w'=>e=.returned (.tuple #[])∧(∃v',WrS w' F v' (p++[fq 21 (es.getD 0 E.zero).et (n+1)]++[fi 0]) (n+1))∧KW F w1 w'):=fun w1 v1 g=>oA w1 F v1 _ (n+1) 0 g (by simp;omega) (by omega) (by omega)
 have HT:Hid (∀w1 v1,Below w0.heap.size w0 w1->WrS w1 F v1 (p++[fq 21 (es.getD 0 E.zero).et (n+1)]++[fi 0]) (n+1)->Calls Tryz.prog 97 #[.pointer (some ⟨F,0,none⟩),.slice (some ⟨b,o,none⟩) es.length cap] w1 fun e w'=>e=.returned (.tuple #[])∧(∃v',WrS w' F v' (p++[fq 21 (es.getD 0 E.zero).et (n+1)]++[fi 0]++fV k es (n+1)) (fK k es (n+1)))∧KW F w1 w'):=fun w1 v1 hb1 g=>FE w0 F hF k w1 v1 _ (n+1) es b o cap g hs hb1 hE hl1 hlk hcap (by simp;omega) (by omega) (by omega)
 have HB:Hid (∀w1 v1,WrS w1 F v1 (p++[fq 21 (es.getD 0 E.zero).et (n+1)]++[fi 0]++fV k es (n+1)) (fK k es (n+1))->Calls Tryz.prog 58 #[.pointer (some ⟨F,0,none⟩),.int .i64 (n+1)] w1 fun e w'=>e=.returned (.tuple #[])∧(∃v',WrS w' F v' (p++[fq 21 (es.getD 0 E.zero).et (n+1)]++[fi 0]++fV k es (n+1)++[fe (n+1)]) (fK k es (n+1)))∧KW F w1 w'):=fun w1 v1 g=>lO w1 F v1 _ _ _ g (by simp;omega)
 have HPo:Hid (∀w' v',WrS w' F v' (p++[fq 21 (es.getD 0 E.zero).et (n+1)]++[fi 0]++fV k es (n+1)++[fe (n+1)]) (fK k es (n+1))->KW F w w'->fl F (p++[fq 21 (es.getD 0 E.zero).et (n+1)]++[fi 0]++fV k es (n+1)++[fe (n+1)]) (fK k es (n+1)) w (.returned (.tuple #[])) w'):=fun w' v' h2 h3=>⟨rfl,⟨v',h2⟩,h3⟩
 generalize p++[fq 21 (es.getD 0 E.zero).et (n+1)]++[fi 0]++fV k es (n+1)++[fe (n+1)]=q4 at*;generalize p++[fq 21 (es.getD 0 E.zero).et (n+1)]++[fi 0]++fV k es (n+1)=q3 at*;generalize p++[fq 21 (es.getD 0 E.zero).et (n+1)]++[fi 0]=q2 at*;generalize p++[fq 21 (es.getD 0 E.zero).et (n+1)]=q1 at*;generalize fK k es (n+1)=n2 at*;generalize(es.getD 0 E.zero).et=ar at*;have hl0:(0:Int)<(es.length:Int):=by omega
 clear hS hs hb0 hE hpb hnb hE1 c0 f1 f2 f3;generalize es.length=m at*;go_enter Tryz.func57,Tryz.ntmps57;go_wp2_with fail;refine(HN.out).mono ?_;rintro _ w1⟨rfl,hS1,hK1⟩;obtain⟨hb1,d1⟩:=HX.out w1 hK1;have HK1:Hid (KW F w w1):=hK1;have HS1:Hid (WrS w1 F v p (n+1)):=hS1;clear HN hK1 hS1;go_wp2_with fail;refine(HU.out _ v HS1.out).mono ?_;rintro _ w2⟨rfl,⟨v2,hS2⟩,hK2⟩;have HK2:Hid (KW F w w2):=HK1.out.trans hK2;have HS2:Hid (WrS w2 F v2 q1 (n+1)):=hS2;clear HU hS2 hK2 HK1 HS1 d1 hb1;go_wp2_with fail;refine(HL.out _ v2 HS2.out).mono ?_;rintro _ w3⟨rfl,⟨v3,hS3⟩,hK3⟩;have HK3:Hid (KW F w w3):=HK2.out.trans hK3;have HS3:Hid (WrS w3 F v3 q2 (n+1)):=hS3;have HB3:Hid (Below w0.heap.size w0 w3):=(HX.out w3 HK3.out).1;clear HL hS3 hK3 HK2 HS2;go_wp2_with fail;refine(HT.out _ v3 HB3.out HS3.out).mono ?_;rintro _ w4⟨rfl,⟨v4,hS4⟩,hK4⟩;have HK4:Hid (KW F w w4):=HK3.out.trans hK4;have HS4:Hid (WrS w4 F v4 q3 n2):=hS4;clear HT hS4 hK4 HK3 HS3 HB3;go_wp2_with fail;refine(HB.out _ v4 HS4.out).mono ?_;rintro _ w5⟨rfl,⟨v5,hS5⟩,hK5⟩;have HF:Hid (fl F q4 n2 w (.returned (.tuple #[])) w5):=HPo.out w5 v5 hS5 (HK4.out.trans hK5);clear HB hS5 hK5 HK4 HS4 HPo HX;go_wp2;go_end0;exact HF.out
end Go.Proofs.YtdihdapmphkhpaaGreat
