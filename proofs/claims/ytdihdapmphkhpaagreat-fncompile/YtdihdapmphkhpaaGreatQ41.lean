import Derived.RangeFuncNested
import Derived.RangeFuncBound
import Derived.RangeFuncLeaves
import Derived.RangeFuncBox
import Derived.Shelf.Abstract
import Derived.OwnWalkIn
import Derived.TacticsInMore
import Derived.LoopNIn
import Derived.LoopIn
import Derived.Laws.OwnMore
import Derived.Test.YtdihdapmphkhpaaGreatQ40
set_option linter.all false
set_option maxRecDepth 200000
set_option maxHeartbeats 16000000
namespace Go.Proofs.YtdihdapmphkhpaaGreat
open Go.RowKit
variable{Bm n:Nat}{m:Mk}{s:List I×Mk}{t:Int}{w:World}{x:It}
theorem wf64(h: -9223372036854775808<=t∧t<=9223372036854775807):(Lit.int .i64 t).wf=true:=by
 simp only[Lit.wf,aL,decide_eq_true_eq];exact⟨h.1,h.2⟩
theorem Bp.look(h:Bp w Bm n m)(ht:(Lit.int .i64 t).wf=true):
 ∃c:Int,(Instr.lookup 105 (.map (some Bm)) (.int .i64 t) true).run Tryz.prog w=.ok (.tuple #[.int .i64 c,.bool (m t).isSome]) w∧∀a,m t=some a->c=a:=by
 obtain⟨D,h1,h2,h3⟩:=h;obtain⟨v,ps,hr,hv⟩:=h1.look_ok (Maps.int_keyed Tryz.underlying3) Tryz.underlying105 (Tryz.zeroValue3 _) (plainElem_int Tryz.underlying3 (by decide)) (Maps.keyOf_int_mk Tryz.underlying3 ht);obtain⟨c,rfl,hc,_⟩:=plainElem_int_inv Tryz.underlying3 hv;simp only[Prod.mk.injEq]at hc;refine⟨c,?_,fun a ha=> ?_⟩
 ·rw[hr]
  cases e:m t with
  |none=>rw[h2 t ht e];rfl
  |some a=>rw[(h3 t a e).1];rfl
 have:=(h3 t a ha).2 (.lit (.int .i64 0));rw[hc.1]at this;injection this with this
 injection this
theorem Bp.put(h:Bp w Bm n m)(ht:(Lit.int .i64 t).wf=true)(a:Nat)(ha:a<=1000000)(hn:n<maxLen):
 ∃w',(Instr.mapUpdate 105 (.map (some Bm)) (.int .i64 t) (.int .i64 (a:Int))).run Tryz.prog w=.ok () w'∧Bp w' Bm (n+1) (fun s=>if s=t then some a else m s)∧w.grownBy w' (some Bm):=by
 obtain⟨D,h1,h2,h3⟩:=h;obtain⟨w',r1,r2,r3⟩:=h1.update (Maps.int_keyed Tryz.underlying3) Tryz.underlying105 hn (Maps.keyOf_int_mk Tryz.underlying3 ht) (plainElem_int (a:=(a:Int)) Tryz.underlying3 (wf64 (by omega)));have hk:WideAt.IsKeyLit (.int .i64 t):=trivial;refine⟨w',r1,⟨_,r2,fun s hs he=> ?_,fun s b he=> ?_⟩,r3⟩;all_goals replace he:(if s=t then some a else m s)=_:=he
 ·by_cases e:s=t
  ·rw[if_pos e]at he;cases he
  rw[if_neg e]at he;rw[Maps.has_put_other (by intro e';injection e' with _ e';exact e e')];exact h2 s hs he
 by_cases e:s=t
 ·rw[if_pos e]at he
  cases he;subst e;exact⟨Maps.has_put_same h1.isMap hk _,fun z=>Maps.atKey_put_same h1.isMap hk _ _⟩
 rw[if_neg e]at he;have ne:(Lit.int IntKind.i64 s)≠.int .i64 t:=by intro e';injection e' with _ e';exact e e'
 rw[Maps.has_put_other ne];exact⟨(h3 s b he).1,fun z=>by rw[Maps.atKey_put_other ne];exact(h3 s b he).2 z⟩
structure KM(Bm:Nat)(w w':World):Prop where
 b:Below Bm w w'
 k:KeepsFrom (Bm+1) w w'
 f:AD w w'
theorem KB.toM{B:Nat}{w':World}(h:KB B w w')(hb:Bm<=B):KM Bm w w':=⟨h.b.mono hb,h.k.from _,h.f⟩
theorem KM.trans{Bm:Nat}{a b c:World}(h:KM Bm a b)(k:KM Bm b c):KM Bm a c:=⟨h.b.trans k.b,h.k.trans k.k,fun q cc t f h0 h1 h2=>k.f q cc t f (h.f q cc t f h0 h1 h2) h1 h2⟩
theorem jI.mapped{w':World}{L:Nat}{v:Value}{p:List I}{m':Mk}(h:jI w L Bm n v p m)(hm:Bp w' Bm (n+1) m')(hg:w.grownBy w' (some Bm)):jI w' L Bm (n+1) v p m'∧KM Bm w w':=by
 have hlt:=h.lt;have hbm:=h.bm;have ne:some L≠some Bm:=by intro e;injection e with e;omega
 refine⟨⟨h.bm,(hg.cell_far ⟨L,0,none⟩ hlt ne).trans h.c0,(hg.cell_far ⟨L,1,none⟩ hlt ne).trans h.c1,(hg.frozen_far ⟨L,0,none⟩ hlt ne).trans h.f0,(by obtain⟨c,f,e⟩:=h.ty;exact⟨c,f,(hg.block L hlt ne).trans e⟩),qO h.own hg (fun q hq e=> ?_),hm⟩,(af Bm w).grown hg (by omega) (fun z hz=>by cases hz;exact ae _),KeepsFrom.of_grownBy hg (fun j hj=>by cases hj;omega),fun q c t f hq h1 h2=>(hg.block q (bf.1 hq).1 (fun e=>by
  injection e with e
  subst e
  obtain⟨D,⟨es,cl,d1,_⟩,_⟩:=h.mp
  rw[d1]at hq;cases hq)).trans hq⟩
 have:=(h.own.lt q hq).1;injection e with e;omega
def nI(L Bm n:Nat)(r:Option (List I×Mk))(w:World)(e:Ending)(w':World):Prop:=
 e=.returned (.bool r.isSome)∧(∀s,r=some s->∃v',jI w' L Bm (n+1) v' s.1 s.2)∧KM Bm w w'
theorem jI.more{L:Nat}{v:Value}{p:List I}(h:jI w L Bm n v p m):jI w L Bm (n+1) v p m:=by
 obtain⟨D,h1,h2,h3⟩:=h.mp;exact⟨h.bm,h.c0,h.c1,h.f0,h.ty,h.own,D,h1.mono (by omega),h2,h3⟩
theorem stI0(h:x.kind=0):stI x s=some (s.1++[x.ins],s.2):=by unfold stI;rw[if_pos h]
theorem stI4n(h:x.kind=4)(hm:s.2 x.target=none):stI x s=some (s.1,fun t=>if t=x.target then some s.1.length else s.2 t):=by unfold stI;rw[if_neg (by omega),hm];simp only;rw[if_pos h]
theorem stI4s{a:Nat}(h:x.kind=4)(hm:s.2 x.target=some a):stI x s=none:=by unfold stI;rw[if_neg (by omega),hm];simp only;rw[if_pos h]
theorem stIn(h0:x.kind≠0)(h:x.kind≠4)(hm:s.2 x.target=none):stI x s=none:=by unfold stI;rw[if_neg h0,hm];simp only;rw[if_neg h]
theorem stIs{a:Nat}(h0:x.kind≠0)(h:x.kind≠4)(hm:s.2 x.target=some a):stI x s=some (s.1++brI x ((s.1.length:Int)-a),s.2):=by unfold stI;rw[if_neg h0,hm];simp only;rw[if_neg h]
theorem Ho(w:World)(L Bm n:Nat)(v:Value)(p:List I)(m:Mk)(x:It)(hS:jI w L Bm n v p m)(hx:x.ok)(hm:∀k a,m k=some a->a<=p.length)(hp:p.length<=900000)(hn:n<=1000000):
 Calls Tryz.prog 61 #[.pointer (some ⟨L,0,none⟩),itV x] w fun e w'=>nI L Bm n (stI x (p,m)) w e w':=by
 have HA:Hid (∀w1 v1 p1 c jt jf k,jI w1 L Bm n v1 p1 m->p1.length<=1000000->Calls Tryz.prog 99 #[.pointer (some ⟨L,0,none⟩),kD c jt jf k] w1 fun e w'=>e=.returned (.tuple #[])∧(∃v',jI w' L Bm n v' (p1++[⟨c,jt,jf,k⟩]) m)∧KB L w1 w'):=fun w1 v1 p1 c jt jf k h hp=>(C5 w1 L Bm n v1 p1 m ⟨c,jt,jf,k⟩ h hp).mono (fun e w' h=>⟨h.1,h.2.1,h.2.2.1⟩)
 have HBr:Hid (∀w1 d,jI w1 L Bm n v p m->0<=d->d<=1000000->Calls Tryz.prog 100 #[.pointer (some ⟨L,0,none⟩),itV x,.int .i64 d] w1 fun e w'=>Bj L Bm n (p++brI x d) m w1 e w'):=fun w1 d h h0 h1=>BS w1 L Bm n v p m x d h hp h0 h1
 have hwf:(Lit.int .i64 x.target).wf=true:=wf64 hx.2.2;have h0s:x.kind=0->stI x (p,m)=some (p++[x.ins],m):=fun h=>stI0 h
 have h4n:x.kind=4->m x.target=none->stI x (p,m)=some (p,fun t=>if t=x.target then some p.length else m t):=fun h h1=>stI4n h h1
 have h4s:∀a,x.kind=4->m x.target=some a->stI x (p,m)=none:=fun a h h1=>stI4s h h1
 have hsn:x.kind≠0->x.kind≠4->m x.target=none->stI x (p,m)=none:=fun h h1 h2=>stIn h h1 h2
 have hss:∀a,x.kind≠0->x.kind≠4->m x.target=some a->stI x (p,m)=some (p++brI x ((p.length:Int)-a),m):=fun a h h1 h2=>stIs h h1 h2
 have HR0:Hid (∀w' q m' r,stI x (p,m)=some (q,m')->(∃v',jI w' L Bm (n+1) v' q m')->KM Bm w w'->r=true->nI L Bm n (stI x (p,m)) w (.returned (.bool r)) w'):=fun w' q m' r e h1 h2 h3=>by
  rw[e,h3];exact⟨rfl,fun s hs=>by cases hs;exact h1,h2⟩
 have HRn:Hid (∀w' r,stI x (p,m)=none->KM Bm w w'->r=false->nI L Bm n (stI x (p,m)) w (.returned (.bool r)) w'):=fun w' r e h2 h3=>by
  rw[e,h3];exact⟨rfl,fun s hs=>(by cases hs),h2⟩
 generalize stI x (p,m)=st at*;have hmt:=hm x.target;have hLs:=hS.lt;have hBm:=hS.bm;have S1:=hS.ey ((af _ _).alloc (ae _) (.cells #[.int .i64 x.kind,.int .u16 x.ins.c,.int .u8 x.ins.jt,.int .u8 x.ins.jf,.int .u32 x.ins.k,.int .i64 x.target] 91));have K1:KB L w (w.alloc (.cells #[.int .i64 x.kind,.int .u16 x.ins.c,.int .u8 x.ins.jt,.int .u8 x.ins.jf,.int .u32 x.ins.k,.int .i64 x.target] 91)):=(KB.refl L w).alloc (bJ hS.lt) _;have O:=wB.new w 91 (.int .i64 x.kind) (.int .u16 x.ins.c) (.int .u8 x.ins.jt) (.int .u8 x.ins.jf) (.int .u32 x.ins.k) (.int .i64 x.target);obtain⟨kd,⟨c,jt,jf,k⟩,tg⟩:=x;simp only[itV]at h0s h4n h4s hsn hss hmt hwf S1 K1 O HBr⊢;go_enter Tryz.func61,Tryz.ntmps61;by_cases h0:kd=0
 ·subst h0;have HE:Hid _:=h0s rfl;clear h0s h4n h4s hsn hss HRn HBr;go_wp2_with fail;generalize w.alloc (.cells #[.int .i64 0,.int .u16 c,.int .u8 jt,.int .u8 jf,.int .u32 k,.int .i64 tg] 91)=W at*;refine(HA.out _ v p c jt jf k S1 (by omega)).mono ?_;rintro _ w1⟨rfl,⟨v1,hS1⟩,hK1⟩;have HF:Hid _:=HR0.out w1 _ _ true HE.out ⟨v1,hS1.more⟩ ((K1.trans hK1).toM (by omega)) rfl;clear HA HR0 HE S1 K1 O hS1 hK1;go_wp2;go_ret;exact HF.out
 have SD:=S1.ey (af _ _).drew;have SDD:=SD.ey (af _ _).drew;have KD:KB L w (w.alloc (.cells #[.int .i64 kd,.int .u16 c,.int .u8 jt,.int .u8 jf,.int .u32 k,.int .i64 tg] 91)).drew.drew:=K1.drew.drew;have OD:=(O.ey (af _ _).drew).ey (af _ _).drew;obtain⟨cc,hlk,hca⟩:=SD.mp.look hwf;obtain⟨av,cv,rfl,_⟩:=j4 hS.own;by_cases h4:kd=4
 ·subst h4;obtain⟨wu,hup,hmu,hgu⟩:=SDD.mp.put hwf p.length (by omega) (by unfold maxLen;omega);obtain⟨SU,KU⟩:=SDD.mapped hmu hgu;have c0:=S1.c0;have c1:=S1.c1;have HKU:Hid _:=(KD.toM (bJ hBm)).trans KU;have HSU:Hid _:=SU;have HN:Hid _:=h4n rfl;have HS:Hid _:=fun a=>h4s a rfl
  clear h0s h4n h4s hsn hss HA HBr S1 K1 O SD SDD KD OD hmu hgu SU KU hca
  cases hmt2:m tg with
  |none=>
   rw[hmt2]at hlk;simp only[Option.isSome_none]at hlk;have HF:Hid _:=HR0.out wu _ _ true (HN.out hmt2) ⟨_,HSU.out⟩ HKU.out rfl;clear HR0 HRn HN HS HSU HKU;go_wp2_with fail;go_region;all_goals go_wp2_with fail
   all_goals go_region
   all_goals go_wp2
   all_goals go_ret
   all_goals exact HF.out
  |some a=>
   rw[hmt2]at hlk;simp only[Option.isSome_some]at hlk;have HF:Hid _:=HRn.out wu false (HS.out a hmt2) HKU.out rfl;clear HR0 HRn HN HS HSU HKU;go_wp2_with fail;go_region;all_goals go_wp2_with fail
   all_goals go_region
   all_goals go_wp2
   all_goals go_ret
   all_goals exact HF.out
 have c0:=S1.c0;have c1:=S1.c1
 cases hmt2:m tg with
 |none=>
  rw[hmt2]at hlk;simp only[Option.isSome_none]at hlk;have HF:Hid _:=HRn.out _ false (hsn h0 h4 hmt2) (K1.drew.toM (bJ hBm)) rfl;clear h0s h4n h4s hsn hss HA HBr S1 K1 O SD SDD KD OD hca HR0 HRn;go_wp2_with fail;go_region;all_goals go_wp2
  all_goals go_ret
  all_goals exact HF.out
 |some a=>
  rw[hmt2]at hlk;simp only[Option.isSome_some]at hlk;have hca':=hca a hmt2;subst hca';have hle:=hmt a hmt2;have hw:IntKind.i64.wrap ((p.length:Int)-a)=(p.length:Int)-a:=by rw[aT];omega
  have HB2:Hid (Calls Tryz.prog 100 #[.pointer (some ⟨L,0,none⟩),.agg #[.int .i64 kd,.int .u16 c,.int .u8 jt,.int .u8 jf,.int .u32 k,.int .i64 tg],.int .i64 ((p.length:Int)-a)] _ fun e w'=>e=.returned (.tuple #[])∧nI L Bm n st w (.returned (.bool true)) w'):=(HBr.out _ _ SDD (by omega) (by omega)).mono (by
   rintro e w'⟨h1,⟨v',h2⟩,h3⟩
   exact⟨h1,HR0.out w' _ _ true (hss a h0 h4 hmt2) ⟨v',h2.more⟩ ((KD.trans h3).toM (bJ hBm)) rfl⟩)
  clear h0s h4n h4s hsn hss HA HBr S1 K1 O SD SDD KD OD hca HR0 HRn;go_wp2_with fail;go_region;all_goals go_wp2_with fail
  all_goals go_region_with(go_at_call 100;refine HB2.out.mono ?_;rintro _ w1⟨rfl,hF1⟩)
  all_goals
   have HF:Hid _:=hF1;clear hF1;go_wp2;go_ret;exact HF.out
end Go.Proofs.YtdihdapmphkhpaaGreat
namespace Go.Proofs.YtdihdapmphkhpaaGreat
open Go.RowKit Go.Shelf
attribute [local go_sem]Oper.semAt_some
theorem It.lB:It.zero.ok:=by unfold It.zero It.ok I.zero I.ok;simp
theorem okT_at{l:List It}(h:∀x∈l,x.ok)(i:Nat):(l.getD i It.zero).ok:=by
 rw[aa]
 cases e:l[i]? with
 |none=>exact It.lB
 |some x=>exact h x (dr e)
abbrev BI:={x:Nat×It//x.2.ok}
abbrev encB(x:BI):Array Value:= #[.int .i64 (x.1.1:Int),itV x.1.2]
def bkF(l:List It)(h:∀x∈l,x.ok)(k:Nat):BI:=⟨(l.length-1-k,l.getD (l.length-1-k) It.zero),okT_at h _⟩
def mZ(f:Nat->BI)(k:Nat):List BI:=(List.range k).map f
theorem uM(f:Nat->BI)(k:Nat):mZ f (k+1)=mZ f k++[f k]:=by simp[mZ,cC]
theorem yg(f:Nat->BI)(k:Nat):(mZ f k).length=k:=by simp[mZ]
def KpB(n₀:Nat)(W W':World):Prop:=Below n₀ W W'∧AD W W'
theorem KpB.trans{n₀:Nat}{a b c:World}(h:KpB n₀ a b)(k:KpB n₀ b c):KpB n₀ a c:=⟨h.1.trans k.1,fun q cc t f h0 h1 h2=>k.2 q cc t f (h.2 q cc t f h0 h1 h2) h1 h2⟩
theorem KpB.refl(n₀:Nat)(a:World):KpB n₀ a a:=⟨af _ _,fun _ _ _ _ h _ _=>h⟩
theorem uL{w:World}{b:Nat}{v:Value}{t:TypeId}{f:Nat×Nat}(h:w.heap[b]? =some (.cells #[v] t f)):w.cell? ⟨b,0,none⟩=some v:=by
 unfold World.cell?;simp only[h];rfl
theorem FP(F:Fence)(n:Nat)(hf:F.fn 98)(hro:F.round=none)(hn:1<=n)(l Bs n₀ b off len cap:Nat)(f:Nat->BI)(hreach:len<=1000000)(hb:b<n₀)(hfi:∀k,k<len->(f k).1.1=len-1-k)(J Jx:List BI->World->Prop)
 (hY:∀pre x W,J pre W->pre.length<len->YieldAt F (n-1) Tryz.prog l (encB x) W fun e W'=>
  (e=.returned (.bool true)∧J (pre++[x]) W'∧KpB n₀ W W')∨(e=.returned (.bool false)∧Jx (pre++[x]) W'))
 (W:World)(fr:Nat×Nat)(hBs:W.heap[Bs]? =some (.cells #[.slice (some ⟨b,off,none⟩) len cap] 60 fr))(hc:∀k,k<len->PI W b (off+(len-1-k)*6) (f k).1.2)(h0:J [] W):
 CallsIn F n Tryz.prog 98 #[.func (.yield l) #[] #[],.pointer (some ⟨Bs,0,none⟩)] W fun e W'=>(∃v,e=.returned v)∧
  ((∃ys,ys=mZ f len∧J ys W')∨(∃pre,(∃k,k<=len∧pre=mZ f k)∧Jx pre W')):=by
 have hBc:=uL hBs
 have hw0:IntKind.i64.wrap ((len:Int)-1)=(len:Int)-1:=by rw[aT];omega
 have HC:Hid (∀wr,KpB n₀ W wr->wr.cell? ⟨Bs,0,none⟩=some (.slice (some ⟨b,off,none⟩) len cap)∧∀k,k<len->PI wr b (off+(len-1-k)*6) (f k).1.2):=fun wr h=>⟨uL (h.2 _ _ _ _ hBs (by decide) (by decide)),fun k hk=>by
  obtain⟨c0,c1,c2,c3,c4,c5⟩:=hc k hk
  exact⟨(h.1.cell (p:=⟨b,_,none⟩) hb).trans c0,(h.1.cell (p:=⟨b,_,none⟩) hb).trans c1,(h.1.cell (p:=⟨b,_,none⟩) hb).trans c2,(h.1.cell (p:=⟨b,_,none⟩) hb).trans c3,(h.1.cell (p:=⟨b,_,none⟩) hb).trans c4,(h.1.cell (p:=⟨b,_,none⟩) hb).trans c5⟩⟩
 clear hc hBs
 refine callsIn_of_wp Tryz.func98 rfl hf ?_ hro
 simp only[Tryz.ntmps98,List.size_toArray,aq,aU,Nat.reduceAdd,Nat.reduceSub,Array.replicate_succ,Array.replicate_zero,List.push_toArray,List.append_toArray,bp,aO]
 gi_wp2
 gi_loopw [3](fun i wr=>∃k:Nat,k<=len∧i=.int .i64 ((len:Int)-1-k)∧J (mZ f k) wr∧KpB n₀ W wr)
  (fun i _=>(intOf i+1).toNat)
 case atStart=>exact⟨0,Nat.zero_le _,by first|rfl|simp,h0,KpB.refl _ _⟩
 case round=>
  obtain⟨k,hk,rfl,hJs,hnx⟩:=hrel
  by_cases hlt:k<len
  ·obtain⟨hBc2,hcs⟩:=HC.out wr hnx
   have hcx:=hcs k hlt
   obtain⟨fn,tmps,assign,body,hy,hR⟩:=hY _ (f k) wr hJs (by rw[yg];exact hlt)
   have hfk:=hfi k hlt
   have hi1:(len:Int)-1-k=((len-1-k:Nat):Int):=by omega
   rw[hi1]
   have hi2:len-1-k<len:=by omega
   have hi3:((len-1-k:Nat):Int)<(len:Int):=by omega
   have hw1:IntKind.i64.wrap (((len-1-k:Nat):Int)-1)=((len-1-k:Nat):Int)-1:=by rw[aT];omega
   have HRel:Hid (((len-1-k:Nat):Int)-1=(len:Int)-1-((k+1:Nat):Int)):=by show _=_;omega
   have HU:Hid (mZ f (k+1)=mZ f k++[f k]):=uM f k
   dsimp only[encB]at hy
   rw[hfk]at hy
   clear HC hcs
   generalize len-1-k=j at*
   generalize f k=fk at*
   obtain⟨⟨i0,⟨kd,⟨c,jt,jf,ik⟩,tg⟩⟩,hok⟩:=fk
   simp only[itV]at hy hcx hfk
   obtain⟨c0,c1,c2,c3,c4,c5⟩:=hcx
   simp only at c0 c1 c2 c3 c4 c5
   gi_wp2
   refine hR.mono ?_
   rintro e W3(⟨rfl,hJ3,hk3⟩|⟨rfl,hJx3⟩)
   ·gi_wp2
    go_roundw
    case rel=>exact⟨k+1,by omega,by rw[HRel.out],by rw[HU.out];exact hJ3,hnx.trans hk3⟩
    case measure=>simp[intOf]
   ·gi_wp2
    refine bodyPost_ret (results_none rfl _ _ _) rfl ?_
    exact⟨⟨_,rfl⟩,.inr ⟨_,⟨k+1,by omega,HU.out.symm⟩,hJx3⟩⟩
  ·obtain rfl:k=len:=by omega
   have hi1:(k:Int)-1-k= -1:=by omega
   rw[hi1]
   clear HC
   gi_wp2
   go_end0
   exact⟨⟨_,rfl⟩,.inl ⟨_,rfl,hJs⟩⟩
theorem xN(F:Fence)(n:Nat)(hf:F.fn 98)(hro:F.round=none)(l Bs cap:Nat)(a:Option Addr)(J:List BI->World->Prop)(W:World)(hBs:W.cell? ⟨Bs,0,none⟩=some (.slice a 0 cap))(h0:J [] W):
 CallsIn F n Tryz.prog 98 #[.func (.yield l) #[] #[],.pointer (some ⟨Bs,0,none⟩)] W fun e W'=>(∃v,e=.returned v)∧J [] W':=by
 refine callsIn_of_wp Tryz.func98 rfl hf ?_ hro;simp only[Tryz.ntmps98,List.size_toArray,aq,aU,Nat.reduceAdd,Nat.reduceSub,Array.replicate_succ,Array.replicate_zero,List.push_toArray,List.append_toArray,bp,aO];gi_wp2;gi_loopw [3](fun i wr=>i=.int .i64 (-1)∧J [] wr)(fun _ _=>0)
 case atStart=>exact⟨rfl,h0⟩
 case round=>
  obtain⟨rfl,hJs⟩:=hrel;gi_wp2;go_end0;exact⟨⟨_,rfl⟩,hJs⟩
theorem GR(a:Option Addr)(len cap:Nat)(w:World):
 Calls Tryz.prog 60 #[.slice a len cap] w fun e w'=>e=.returned (.func (.func 98) #[] #[.pointer (some ⟨w.heap.size,0,none⟩)])∧w'=w.alloc (.cells #[.slice a len cap] 60):=by
 go_enter Tryz.func60,Tryz.ntmps60;go_wp2;go_ret;exact⟨rfl,rfl⟩
theorem Cq(F:Fence)(n:Nat)(hf:F.fn 98)(hro:F.round=none)(hn:1<=n)(Bs n₀ cap:Nat)(a:Option Addr)(it:List It)(ho:∀x∈it,x.ok)(hreach:it.length<=1000000)(w0 w:World)(hn₀:w0.heap.size<=n₀)(hn₁:n₀<=w.heap.size)(hb0:Below w0.heap.size w0 w)
 (fr:Nat×Nat)(hc:w.heap[Bs]? =some (.cells #[.slice a it.length cap] 60 fr))(hI:TSrc w0 a it):
 SeqStopsK F n Tryz.prog 98 #[.pointer (some ⟨Bs,0,none⟩)] encB (KpB n₀) (fun ys=>ys=mZ (bkF it ho) it.length)
  (fun pre=>∃k,k<=it.length∧pre=mZ (bkF it ho) k) it.length w:=fun l J Jx W hW _ _ hY h0=>by
 have hc':=(hW.block Bs (bf.1 hc).1).trans hc
 have hI':TSrc W a it:=hI.below PI.stays (hb0.trans (hW.mono (aW hn₀ hn₁)))
 rcases hI with rfl|⟨b,o,rfl,hlt,_⟩
 ·exact(xN F n hf hro l Bs cap a J W (uL hc') h0).mono fun e W'⟨he,hj⟩=>⟨he,.inl ⟨_,rfl,hj⟩⟩
 ·refine FP F n hf hro hn l Bs n₀ b o it.length cap (bkF it ho) hreach (by omega) (fun k hk=>rfl) J Jx hY W fr hc' (fun k hk=> ?_) h0
  obtain⟨b',o',e,_,hp⟩:=hI'.at (i:=it.length-1-k) (by omega) It.zero
  cases e
  exact hp
end Go.Proofs.YtdihdapmphkhpaaGreat
namespace Go.Proofs.YtdihdapmphkhpaaGreat
open Go.RowKit
theorem qJ(x:I)(p:List I):ff (x::p)=[.int .u16 x.c,.int .u8 x.jt,.int .u8 x.jf,.int .u32 x.k]++ff p:=rfl
theorem yF(p:List I)(i f:Nat)(hi:i<p.length)(v:Value)(y:I)(h:([.int .u16 (p.getD i I.zero).c,.int .u8 (p.getD i I.zero).jt,.int .u8 (p.getD i I.zero).jf,.int .u32 (p.getD i I.zero).k]:List Value).set f v=[.int .u16 y.c,.int .u8 y.jt,.int .u8 y.jf,.int .u32 y.k])(hf:f<4):
 (ff p).set (i*4+f) v=ff (p.set i y):=by
 induction p generalizing i with
 |nil=>simp at hi
 |cons x p ih=>
  cases i with
  |zero=>
   simp only[List.set_cons_zero,qJ];rw[List.set_append_left _ _ (by simp;omega)];simp only[dQ,aC];rw[show([Value.int .u16 x.c,.int .u8 x.jt,.int .u8 x.jf,.int .u32 x.k]:List Value).set f v=_ from h]
  |succ i=>
   simp only[List.set_cons_succ,qJ];rw[List.set_append_right _ _ (by simp;omega)];rw[show(i+1)*4+f-([Value.int .u16 x.c,.int .u8 x.jt,.int .u8 x.jf,.int .u32 x.k]:List Value).length=i*4+f by simp;omega];rw[ih i (by simpa using hi) h]
section
variable{w:World}{B g cap:Nat}{p:List I}{i:Nat}
theorem um(hi:i<p.length)(y:I):(p.set i y).getD i I.zero=y:=by
 rw[aa,List.getElem?_set_self hi];rfl
theorem tX{n:Nat}(hn:p.length=n)(h:w.ownsRow B 68 4 (.slice (some ⟨g,0,none⟩) n cap) n (ff p))(hi:i<p.length)(f:Nat)(hf:f<4)(v:Value)(y:I)
 (e:([.int .u16 (p.getD i I.zero).c,.int .u8 (p.getD i I.zero).jt,.int .u8 (p.getD i I.zero).jf,.int .u32 (p.getD i I.zero).k]:List Value).set f v=[.int .u16 y.c,.int .u8 y.jt,.int .u8 y.jf,.int .u32 y.k]):
 (w.setCell ⟨g,i*4+f,none⟩ v).ownsRow B 68 4 (.slice (some ⟨g,0,none⟩) n cap) n (ff (p.set i y)):=by
 subst hn
 have h1:=(World.ownsRow.stored h (i*4+f) v).1
 rw[yF p i f hi v y e hf]at h1
 exact h1
theorem DE{n:Nat}(hn:p.length=n)(h:w.ownsRow B 68 4 (.slice (some ⟨g,0,none⟩) n cap) n (ff p))(hi:i<p.length)(y:I):
 ((((w.setCell ⟨g,i*4,none⟩ (.int .u16 y.c)).setCell ⟨g,i*4+1,none⟩ (.int .u8 y.jt)).setCell ⟨g,i*4+2,none⟩ (.int .u8 y.jf)).setCell ⟨g,i*4+3,none⟩ (.int .u32 y.k)).ownsRow B 68 4 (.slice (some ⟨g,0,none⟩) n cap) n (ff (p.set i y)):=by
 have a0:=tX hn h hi 0 (by omega) (.int .u16 y.c) {p.getD i I.zero with c:=y.c} rfl;have a1:=tX (by simpa using hn) a0 (by simpa using hi) 1 (by omega) (.int .u8 y.jt) {p.getD i I.zero with c:=y.c,jt:=y.jt} (by rw[um hi];rfl);rw[List.set_set]at a1;have a2:=tX (by simpa using hn) a1 (by simpa using hi) 2 (by omega) (.int .u8 y.jf) {p.getD i I.zero with c:=y.c,jt:=y.jt,jf:=y.jf} (by rw[um hi];rfl);rw[List.set_set]at a2;have a3:=tX (by simpa using hn) a2 (by simpa using hi) 3 (by omega) (.int .u32 y.k) y (by rw[um hi];rfl);rw[List.set_set]at a3;exact a3
end
end Go.Proofs.YtdihdapmphkhpaaGreat
namespace Go.Proofs.YtdihdapmphkhpaaGreat
open Go.RowKit
variable{B:Nat}
theorem rJ(p:List I)(i j:Nat)(y z:I):(p.set i y).getD j z=if i=j∧i<p.length then y else p.getD j z:=by
 simp only[aa,dL];by_cases h:i=j
 ·subst h;by_cases hl:i<p.length
  ·simp[hl]
  simp[hl]
 simp[h]
def Swp(p q:List I)(k:Nat):Prop:=q.length=p.length∧∀i,i<p.length->q.getD i I.zero=if i<k∨p.length-k<=i then p.getD (p.length-1-i) I.zero else p.getD i I.zero
theorem Swp.start(p:List I):Swp p p 0:=⟨rfl,fun i hi=>by rw[if_neg (by omega)]⟩
theorem Swp.step{p q:List I}{k:Nat}(h:Swp p q k)(hk:k+k+1<p.length):Swp p ((q.set k (q.getD (p.length-1-k) I.zero)).set (p.length-1-k) (q.getD k I.zero)) (k+1):=by
 obtain⟨h1,h2⟩:=h;refine⟨by simpa using h1,fun i hi=> ?_⟩;rw[rJ,rJ];simp only[aK];have e1:=h2 k (by omega);have e2:=h2 (p.length-1-k) (by omega);rw[if_neg (by omega)]at e1 e2;by_cases c1:p.length-1-k=i
 ·rw[if_pos ⟨c1,by omega⟩,if_pos (by omega),e1];congr 1;omega
 rw[if_neg (fun h=>c1 h.1)];by_cases c2:k=i
 ·rw[if_pos ⟨c2,by omega⟩,if_pos (by omega),e2,c2]
 rw[if_neg (fun h=>c2 h.1),h2 i hi];by_cases c3:i<k∨p.length-k<=i
 ·rw[if_pos c3,if_pos (by omega)]
 rw[if_neg c3,if_neg (by omega)]
theorem Swp.done{p q:List I}{k:Nat}(h:Swp p q k)(hk:¬k+k+1<p.length):q=p.reverse:=by
 obtain⟨h1,h2⟩:=h;apply dz
 ·simpa using h1
 intro i hi hj;have hp:i<p.length:=by omega
 have e:=h2 i hp;rw[aa,ag hi]at e;rw[List.getElem_reverse];have e3:p.getD (p.length-1-i) I.zero=p[p.length-1-i]:=by rw[aa,ag (by omega)];rfl
 by_cases c:i<k∨p.length-k<=i
 ·rw[if_pos c]at e;exact Eq.trans e e3
 rw[if_neg c]at e;have:p.length-1-i=i:=by omega
 exact Eq.trans e ((show p.getD i I.zero=p.getD (p.length-1-i) I.zero by rw[this]).trans e3)
def BO(B:Nat)(w w':World):Prop:=Below B w w'∧KeepsOthers w w'
theorem BO.set{a b:World}(h:BO B a b){p:Addr}(hp:B<=p.block)(v:Value):BO B a (b.setCell p v):=⟨h.1.setCell hp v,h.2.trans (KeepsOthers.setCell _ _ _)⟩
theorem BO.set4{W w:World}(h:BO B W w){D:Nat}(hD:B<=D)(o:Nat)(a b c d:Value):BO B W ((((w.setCell ⟨D,o,none⟩ a).setCell ⟨D,o+1,none⟩ b).setCell ⟨D,o+2,none⟩ c).setCell ⟨D,o+3,none⟩ d):=(((h.set (p:=⟨D,_,none⟩) hD _).set (p:=⟨D,_,none⟩) hD _).set (p:=⟨D,_,none⟩) hD _).set (p:=⟨D,_,none⟩) hD _
theorem BO.drew{B:Nat}{a b:World}(h:BO B a b):BO B a b.drew:=⟨h.1.drew,h.2.trans (KeepsOthers.drew _)⟩
theorem Bl{w:World}{e s n cap g:Nat}{xs:List Value}(h:w.ownsRow B e s (.slice (some ⟨g,0,none⟩) n cap) n xs)(j:Nat):w.frozen? ⟨g,j,none⟩=false:=by
 obtain⟨_,⟨h,_⟩|⟨g',cap,cur,e,hb,hgc,_⟩⟩:=h
 ·cases h
 cases e;simp[World.frozen?,hgc]
theorem y9 (w : World) (B : Nat) (v : Value) (p : List I) (ho : gS w B v p) (hn : p.length <= 1000000) :
    Calls Tryz.prog 62 #[v] w fun e w' => e = .returned (.tuple #[]) ∧ gS w' B v p.reverse ∧ BO B w w' := by
  obtain ⟨a, cap, rfl, hsr⟩ := j4 ho
  by_cases h0 : p.length = 0
  · have hp : p = [] := aM h0
    subst hp
    simp only [aU]
    go_enter Tryz.func62, Tryz.ntmps62
    go_wp2_with fail
    go_loopw [2, 3] (fun i j wr => i = .int .i64 0 ∧ j = .int .i64 (-1) ∧ wr = w) (fun _ _ _ => 0)
    case atStart => exact ⟨rfl, rfl, rfl⟩
    case round =>
      obtain ⟨rfl, rfl, rfl⟩ := hrel
      go_wp2
      go_end0
      exact ⟨rfl, ho, af _ _, KeepsOthers.refl _⟩
  · obtain ⟨g, rfl, hBg⟩ : ∃ g, a = some ⟨g, 0, none⟩ ∧ B <= g := by
      obtain ⟨_, ⟨h, _⟩ | ⟨g, cap', cur, e, hb, _⟩⟩ := ho
      · injection h with h1 h2; omega
      · injection e with e1 e2 e3; exact ⟨g, e1, hb⟩
    have HS : Hid (∀ q k, Swp p q k -> k + k + 1 < p.length -> Swp p ((q.set k (q.getD (p.length - 1 - k) I.zero)).set (p.length - 1 - k) (q.getD k I.zero)) (k + 1)) := fun q k h hk => h.step hk
    have HD : Hid (∀ q k, Swp p q k -> ¬ k + k + 1 < p.length -> q = p.reverse) := fun q k h hk => h.done hk
    have HA : Hid (∀ (wr : World) (q : List I) (i : Nat) (y : I), q.length = p.length -> wr.ownsRow B 68 4 (.slice (some ⟨g, 0, none⟩) p.length cap) p.length (ff q) -> i < p.length -> ((((wr.setCell ⟨g, i * 4, none⟩ (.int .u16 y.c)).setCell ⟨g, i * 4 + 1, none⟩ (.int .u8 y.jt)).setCell ⟨g, i * 4 + 2, none⟩ (.int .u8 y.jf)).setCell ⟨g, i * 4 + 3, none⟩ (.int .u32 y.k)).ownsRow B 68 4 (.slice (some ⟨g, 0, none⟩) p.length cap) p.length (ff (q.set i y))) := fun wr q i y hq h hi => DE hq h (by omega) y
    have HP : Hid (∀ (wr : World) (q : List I), q.length = p.length -> wr.ownsRow B 68 4 (.slice (some ⟨g, 0, none⟩) p.length cap) p.length (ff q) -> ∀ i, i < p.length -> wr.cell? ⟨g, i * 4, none⟩ = some (.int .u16 (q.getD i I.zero).c) ∧ wr.cell? ⟨g, i * 4 + 1, none⟩ = some (.int .u8 (q.getD i I.zero).jt) ∧ wr.cell? ⟨g, i * 4 + 2, none⟩ = some (.int .u8 (q.getD i I.zero).jf) ∧ wr.cell? ⟨g, i * 4 + 3, none⟩ = some (.int .u32 (q.getD i I.zero).k)) := fun wr q hq h i hi => by
      have h' : gS wr B (.slice (some ⟨g, 0, none⟩) q.length cap) q := by rw [<- hq] at h; exact h
      obtain ⟨a', c', e, hs⟩ := j4 h'
      cases e
      obtain ⟨b, o, e, _, h0, h1, h2, h3⟩ := hs.at (i := i) (by omega)
      cases e
      simp only [aC] at h0 h1 h2 h3
      exact ⟨h0, h1, h2, h3⟩
    have HPr : Hid (p.reverse = p.reverse) := rfl
    have hSt := Swp.start p
    generalize p.reverse = pr at *
    generalize hpl : p.length = n at *
    have hw : IntKind.i64.wrap ((n : Int) - 1) = (n : Int) - 1 := by rw [aT]; omega
    go_enter Tryz.func62, Tryz.ntmps62
    go_wp2_with fail
    have ho' : w.ownsRow B 68 4 (.slice (some ⟨g, 0, none⟩) n cap) n (ff p) := by have := ho; rw [gS, hpl] at this; exact this
    go_loopw [2, 3] (fun i j wr => ∃ (k : Nat) (q : List I), i = .int .i64 k ∧ j = .int .i64 ((n : Int) - 1 - k) ∧ k + k <= n ∧ q.length = n ∧ Hid (Swp p q k) ∧ Hid (wr.ownsRow B 68 4 (.slice (some ⟨g, 0, none⟩) n cap) n (ff q)) ∧ Hid (BO B w wr)) (fun i _ _ => n - (intOf i).toNat)
    case atStart => exact ⟨0, p, rfl, by first | rfl | simp, by omega, hpl, hSt, ho', af _ _, KeepsOthers.refl _⟩
    case round =>
      obtain ⟨k, q, rfl, rfl, hk, hq, hSw, hO, hB⟩ := hrel
      have hi1 : (n : Int) - 1 - k = ((n - 1 - k : Nat) : Int) := by omega
      rw [hi1]
      by_cases hlt : k + k + 1 < n
      · have hc : (k : Int) < ((n - 1 - k : Nat) : Int) := by omega
        have hkn : (k : Int) < (n : Int) := by omega
        have hjn : ((n - 1 - k : Nat) : Int) < (n : Int) := by omega
        obtain ⟨a0, a1, a2, a3⟩ := HP.out wr q hq hO.out k (by omega)
        obtain ⟨b0, b1, b2, b3⟩ := HP.out wr q hq hO.out (n - 1 - k) (by omega)
        have hSw' : Hid (Swp p ((q.set k (q.getD (n - 1 - k) I.zero)).set (n - 1 - k) (q.getD k I.zero)) (k + 1)) := HS.out q k hSw.out hlt
        have hO1 := HA.out wr q k (q.getD (n - 1 - k) I.zero) hq hO.out (by omega)
        have hO2 := HA.out _ _ (n - 1 - k) (q.getD k I.zero) (by simpa using hq) hO1 (by omega)
        have hF := Bl hO.out
        have hw1 : IntKind.i64.wrap ((k : Int) + 1) = ((k + 1 : Nat) : Int) := by rw [aT]; omega
        have hw2 : IntKind.i64.wrap (((n - 1 - k : Nat) : Int) - 1) = (n : Int) - 1 - ((k + 1 : Nat) : Int) := by rw [aT]; omega
        have hq' : ∀ x y, ((q.set k x).set (n - 1 - k) y).length = n := fun x y => by simpa using hq
        have hne : k ≠ n - 1 - k := by omega
        generalize q.getD (n - 1 - k) I.zero = y at *
        generalize q.getD k I.zero = x at *
        have hk2 : k + 1 + (k + 1) <= n := by omega
        generalize n - 1 - k = j at *
        obtain ⟨xc, xjt, xjf, xk⟩ := x
        obtain ⟨yc, yjt, yjf, yk⟩ := y
        simp only at a0 a1 a2 a3 b0 b1 b2 b3 hO2 hSw'
        have HO3 : Hid (((((((((wr.setCell ⟨g, k * 4, none⟩ (.int .u16 yc)).setCell ⟨g, k * 4 + 1, none⟩ (.int .u8 yjt)).setCell ⟨g, k * 4 + 2, none⟩ (.int .u8 yjf)).setCell ⟨g, k * 4 + 3, none⟩ (.int .u32 yk)).setCell ⟨g, j * 4, none⟩ (.int .u16 xc)).setCell ⟨g, j * 4 + 1, none⟩ (.int .u8 xjt)).setCell ⟨g, j * 4 + 2, none⟩ (.int .u8 xjf)).setCell ⟨g, j * 4 + 3, none⟩ (.int .u32 xk)).ownsRow B 68 4 (.slice (some ⟨g, 0, none⟩) n cap) n (ff ((q.set k ⟨yc, yjt, yjf, yk⟩).set j ⟨xc, xjt, xjf, xk⟩))) := hO2
        clear hO2
        have hBn := BO.set4 (BO.set4 hB.out hBg (k * 4) (.int .u16 yc) (.int .u8 yjt) (.int .u8 yjf) (.int .u32 yk)) hBg (j * 4) (.int .u16 xc) (.int .u8 xjt) (.int .u8 xjf) (.int .u32 xk)
        have HBn : Hid (BO B w ((((((((wr.setCell ⟨g, k * 4, none⟩ (.int .u16 yc)).setCell ⟨g, k * 4 + 1, none⟩ (.int .u8 yjt)).setCell ⟨g, k * 4 + 2, none⟩ (.int .u8 yjf)).setCell ⟨g, k * 4 + 3, none⟩ (.int .u32 yk)).setCell ⟨g, j * 4, none⟩ (.int .u16 xc)).setCell ⟨g, j * 4 + 1, none⟩ (.int .u8 xjt)).setCell ⟨g, j * 4 + 2, none⟩ (.int .u8 xjf)).setCell ⟨g, j * 4 + 3, none⟩ (.int .u32 xk))) := hBn
        have hZ1 : ((k + 1 : Nat) : Int) = (k : Int) + 1 := by omega
        have hZ2 : (n : Int) - 1 - ((k + 1 : Nat) : Int) = (j : Int) - 1 := by omega
        clear HS hBn HD HA HP hSw hO hO1 ho ho' hsr hSt
        go_wp2_with fail
        go_region
        all_goals
          go_wp2
          go_roundw
          case rel =>
            refine ⟨k + 1, (q.set k ⟨yc, yjt, yjf, yk⟩).set j ⟨xc, xjt, xjf, xk⟩, congrArg (Value.int .i64) (by omega), congrArg (Value.int .i64) (by omega), hk2, hq' _ _, hSw', ?_, ?_⟩
            · exact World.ownsRow.drew HO3.out
            · exact BO.drew HBn.out
          case measure => simp [intOf]; omega
      · have hc : ¬ (k : Int) < ((n - 1 - k : Nat) : Int) := by omega
        have hE := HD.out q k hSw.out hlt
        subst hE
        have HO2 : Hid _ := hO.out
        clear HS HD HA HP hSw hO ho ho' hsr hSt
        go_wp2
        go_end0
        refine ⟨rfl, ?_, hB.out⟩
        have := HO2.out
        rw [gS, hq]
        exact this
end Go.Proofs.YtdihdapmphkhpaaGreat
