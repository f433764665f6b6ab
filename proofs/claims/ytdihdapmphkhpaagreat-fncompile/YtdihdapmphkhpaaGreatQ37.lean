import Derived.ProofKit
import Derived.OpenShut
import Derived.ShutString
import Derived.ChangeOld
import Derived.Deep.Slices
import Derived.Test.YtdihdapmphkhpaaGreatQ36
set_option linter.all false
set_option maxRecDepth 200000
set_option maxHeartbeats 16000000
namespace Go.Proofs.YtdihdapmphkhpaaGreat
open Go.ChangeShapes Go.WideShapes Go.ChangeAt Go.RowKit Go.Deep
theorem own:ownKnob Tryz.prog.godebug=none:=by kernel_rfl
theorem laidOut:laidOutB Tryz.prog=true:=by kernel_rfl
theorem Ht{w:World}{a:Addr}{v:Value}(h:w.cell? a=some v):a.block<w.heap.size:=by
 by_cases hb:a.block<w.heap.size
 ·exact hb
 exfalso;simp[World.cell?,cI (show w.heap.size<=a.block by omega)]at h
end Go.Proofs.YtdihdapmphkhpaaGreat
namespace Go.Proofs.YtdihdapmphkhpaaGreat
open Go.RowKit
variable{B F i n s t:Nat}{p:List It}{v x:Value}{w w1:World}{xs:List Value}
open Go.ChangeShapes Go.WideShapes Go.ChangeAt Go.Deep in
theorem open_bytes{H:Type}{enc:TypeId×Value->H}{W:World}{a:Option Addr}{len cap:Nat}{d:DataW H}{ps:List MemPlace}
 (h:DataW.Trod enc Tryz.prog W 0 (fun _=>true) true 22 (.slice a len cap) d ps):
 ∃l:List Int,l.length=len∧len<=maxLen∧len<=cap∧ng W a l∧eV l:=by
 obtain⟨fuel,hf⟩:=h
 rcases open_ints Tryz.underlying22 Tryz.underlying5 (by kernel_rfl) hf with⟨hcs,_⟩|⟨x,l,c,zs,hcs,_,hl,hm,hz,_,hcell,hwz⟩
 ·simp[Value.cells]at hcs
  obtain⟨rfl,rfl,rfl⟩:=hcs
  exact⟨[],rfl,by simp,by simp,.inl rfl,fun x hx=>by simp at hx⟩
 ·simp[Value.cells]at hcs
  obtain⟨rfl,rfl,rfl⟩:=hcs
  have hzl:zs.length=cap:=by simpa using hz
  have hlen:(zs.take len).length=len:=by simp;omega
  refine⟨zs.take len,hlen,by omega,hl,?_,fun y hy=> ?_⟩
  ·by_cases h0:len=0
   ·subst h0;exact .inl (by simp)
   ·have hc0:=hcell 0 (by omega)
    have hspot:x.spot=none:=by simpa[Addr.add]using World.cell?_spot hc0
    have hlt:x.block<W.heap.size:=by simpa[Addr.add]using Ht hc0
    obtain⟨b,o,sp⟩:=x
    simp only at hspot
    subst hspot
    refine .inr ⟨b,o,rfl,hlt,fun i hi=> ?_⟩
    have hi':i<len:=by omega
    have hc:=hcell i (by omega)
    rw[kn]at hc
    rw[hc]
    simp[aa,hi']
  ·have:=bounds_u8 (hwz y (aB hy))
   omega
theorem xS(p:List I)(i:Nat)(h:i<p.length):(ff p)[i*4]? =some (.int .u16 (p.getD i I.zero).c)∧(ff p)[i*4+1]? =some (.int .u8 (p.getD i I.zero).jt)∧
 (ff p)[i*4+2]? =some (.int .u8 (p.getD i I.zero).jf)∧(ff p)[i*4+3]? =some (.int .u32 (p.getD i I.zero).k):=by
 induction p generalizing i with
 |nil=>simp at h
 |cons x p ih=>
  have e:ff (x::p)=insC x++ff p:=by simp[ff]
  have hl:(insC x).length=4:=rfl;rw[e];match i with
  |0=>simp[insC]
  |i+1=>
   have hi:i<p.length:=by simpa using h
   have:=ih i hi;rw[aw (by rw[hl];omega),aw (by rw[hl];omega),aw (by rw[hl];omega),aw (by rw[hl];omega),hl];rw[show(i+1)*4-4=i*4 by omega,show(i+1)*4+1-4=i*4+1 by omega,show(i+1)*4+2-4=i*4+2 by omega,show(i+1)*4+3-4=i*4+3 by omega];simpa using this
theorem j4{base:Nat}{p:List I}(h:gS w base v p):∃a cap,v=.slice a p.length cap∧Src w a p:=by
 obtain⟨_,h|⟨g,cap,cur,rfl,hb,hg,hn,hm,hs,hx⟩⟩:=h
 ·obtain⟨rfl,h0⟩:=h;have:p=[]:=aM h0;subst this;exact⟨none,0,rfl,.inl rfl⟩
 refine⟨_,_,rfl,.inr ⟨g,0,rfl,(bf.1 hg).1,fun i hi=> ?_⟩⟩;have key:∀j u,j<p.length*4->(ff p)[j]? =some u->w.cell? ⟨g,0+j,none⟩=some u:=by
  intro j u hj hu;rw[<-hx,bP,if_pos hj]at hu;simp only[World.cell?,hg,aC];simpa using hu
 obtain⟨c0,c1,c2,c3⟩:=xS p i hi;refine⟨key _ _ (by omega) c0,?_,?_,?_⟩
 ·rw[cX];exact key _ _ (by omega) c1
 ·rw[cX];exact key _ _ (by omega) c2
 rw[cX];exact key _ _ (by omega) c3
theorem oh{B' t' s' n':Nat}{v':Value}{xs':List Value}(h:w.ownsRow B t s v n xs)(h':w.ownsRow B' t' s' v' n' xs')(ht:t≠t'):v'.ownBlock=none∨v'.ownBlock≠v.ownBlock:=by
 obtain⟨_,⟨rfl,_⟩|⟨g,cap,cur,rfl,hb,hg,_⟩⟩:=h
 ·cases hv:v'.ownBlock with
  |none=>exact .inl rfl
  |some q=>exact .inr (by simp[Value.ownBlock])
 obtain⟨_,⟨rfl,_⟩|⟨g',cap',cur',rfl,hb',hg',_⟩⟩:=h'
 ·exact .inl rfl
 refine .inr fun e=> ?_
 have:g'=g:=by simpa[Value.ownBlock]using e
 subst this;rw[hg]at hg';simp only[bz,Obj.cells.injEq]at hg';exact ht hg'.2.1
theorem nA(h:w.ownsRow B t s v n xs)(hb:Below w.heap.size w w1):w1.ownsRow B t s v n xs:=
 aA (row:=none) h ⟨hb.os,hb.tape,hb.output,hb.size,fun k hk _=>hb.block k hk⟩ (by cases v.ownBlock<;>simp)
theorem Fe:(Tryz.prog.info? 137).map (fun i=>(i.zero,i.size,i.bytes))=some (some (.agg #[.int .i64 0,.int .i64 0]),2,16):=by kernel_rfl
structure OkS(l:List It)(k:Nat)(ms:List Ma):Prop where
 all:∀j,k<=j->j<l.length->okIt (l.getD j It.zero)=true
 lay:∃st,jc (l.drop k)=some st∧∀t,jF ms t=none↔st.2 t=none
def EX(l:List It):Bool:=l.all okIt&&(jc l).isSome
theorem OkS.done{l:List It}{ms:List Ma}(h:OkS l 0 ms):EX l=true:=by
 obtain⟨h1,st,h2,_⟩:=h;unfold EX;rw[List.drop_zero]at h2;rw[h2];simp only[Option.isSome_some,cF];rw[bC];intro x hx;obtain⟨i,hi,rfl⟩:=bH hx;have:=h1 i (Nat.zero_le _) hi;rw[aa,ag hi]at this;exact this
structure oz(w:World)(g:Nat)(x0 x1 x2 x3:Value):Prop where
 lt:g<w.heap.size
 c0:w.cell? ⟨g,0,none⟩=some x0
 c1:w.cell? ⟨g,1,none⟩=some x1
 c2:w.cell? ⟨g,2,none⟩=some x2
 c3:w.cell? ⟨g,3,none⟩=some x3
 f:∀i,w.frozen? ⟨g,i,none⟩=false
theorem oz.new(w:World)(t:TypeId)(x0 x1 x2 x3:Value):oz (w.alloc (.cells #[x0,x1,x2,x3] t)) w.heap.size x0 x1 x2 x3:=⟨by simp,by simp,by simp,by simp,by simp,by simp⟩
theorem oz.ey{g:Nat}{x0 x1 x2 x3:Value}(h:oz w g x0 x1 x2 x3)(hb:Below w.heap.size w w1):oz w1 g x0 x1 x2 x3:=
 ⟨an h.lt hb.size,(hb.cell (p:=⟨g,_,none⟩) h.lt).trans h.c0,(hb.cell (p:=⟨g,_,none⟩) h.lt).trans h.c1,(hb.cell (p:=⟨g,_,none⟩) h.lt).trans h.c2,(hb.cell (p:=⟨g,_,none⟩) h.lt).trans h.c3,fun i=>(hb.frozen (p:=⟨g,i,none⟩) h.lt).trans (h.f i)⟩
theorem oz.grown{g:Nat}{x0 x1 x2 x3:Value}{row:Option Nat}(h:oz w g x0 x1 x2 x3)(hg:w.grownBy w1 row)(hne:some g≠row):oz w1 g x0 x1 x2 x3:=
 ⟨an h.lt hg.size,(hg.cell_far ⟨g,_,none⟩ h.lt hne).trans h.c0,(hg.cell_far ⟨g,_,none⟩ h.lt hne).trans h.c1,(hg.cell_far ⟨g,_,none⟩ h.lt hne).trans h.c2,(hg.cell_far ⟨g,_,none⟩ h.lt hne).trans h.c3,fun i=>(hg.frozen_far ⟨g,i,none⟩ h.lt hne).trans (h.f i)⟩
theorem iZ{W:World}{cs:List Value}{A:Nat}(h:A=W.heap.size):∀j u,cs[j]? =some u->(W.alloc (.cells cs.toArray t)).cell? ((⟨A,0,none⟩:Addr).add j)=some u:=by
 subst h;exact World.news_of_block (t:=t) (fr:=(0,0)) (heap_alloc_new W _)
theorem nW{D:Nat}(h:w.ownsRow B t s v n xs)(hne:∀q,v.ownBlock=some q->q=D->False):(w.setCell ⟨D,i,none⟩ x).ownsRow B t s v n xs:=
 aA h (qt (ah _ _) i x) (by
  cases hv:v.ownBlock with
  |none=>exact .inl rfl
  |some q=>exact .inr (fun e=>hne q hv (by simpa using e)))
structure LdS(l:List It)(k:Nat)(ms:List Ma)(st:List I×Mk):Prop where
 lay:jc (l.drop k)=some st
 fm:∀t,jF ms t=st.2 t
theorem LdS.some{l:List It}{k:Nat}{ms:List Ma}{st s0:List I×Mk}(h:LdS l (k+1) ms st)(h0:jc l=Option.some s0)(hk:k<l.length):∃t,stI (l.getD k It.zero) st=Option.some t:=by
 obtain⟨t,h1,_⟩:=wV h0 k;rw[j7 hk,h.lay]at h1;exact⟨t,h1⟩
theorem LdS.len{l:List It}{k:Nat}{ms:List Ma}{st:List I×Mk}(h:LdS l k ms st):st.1.length<=l.length*2:=by
 have:=(mu h.lay).2;rw[bK]at this;omega
def zr(w w':World):Prop:=∀(q:Nat)(c:Array Value)(t:TypeId)(f:Nat×Nat),w.heap[q]? =some (.cells c t f)->t≠91->t≠64->w'.heap[q]? =some (.cells c t f)
theorem zr.gG{w':World}(h:Below w.heap.size w w'):zr w w':=fun q c t f hq _ _=>(h.block q (bf.1 hq).1).trans hq
structure KW(F:Nat)(w w':World):Prop where
 b:Below F w w'
 f:zr w w'
theorem KW.refl(F:Nat)(w:World):KW F w w:=⟨af _ _,fun _ _ _ _ h _ _=>h⟩
theorem KW.trans{F:Nat}{a b c:World}(h:KW F a b)(k:KW F b c):KW F a c:=⟨h.b.trans k.b,fun q cc t f h0 h1 h2=>k.f q cc t f (h.f q cc t f h0 h1 h2) h1 h2⟩
theorem KW.gG{F:Nat}{w w':World}(h:Below w.heap.size w w')(hF:F<=w.heap.size):KW F w w':=⟨h.mono hF,zr.gG h⟩
theorem EG{e q:Nat}(h:w.ownsRow B e s v n xs)(hj:v.ownBlock=some q){c:Array Value}{t:TypeId}{f:Nat×Nat}(hq:w.heap[q]? =some (.cells c t f)):t=e:=by
 obtain⟨_,⟨rfl,_⟩|⟨g,cap,cur,rfl,hb,hgc,_⟩⟩:=h
 ·cases hj
 have:g=q:=by simpa[Value.ownBlock]using hj
 subst this;rw[hgc]at hq;cases hq;rfl
structure WrS(w:World)(F:Nat)(v:Value)(p:List It)(n:Int):Prop where
 c0:w.cell? ⟨F,0,none⟩=some v
 c1:w.cell? ⟨F,1,none⟩=some (.int .i64 n)
 f0:w.frozen? ⟨F,0,none⟩=false
 f1:w.frozen? ⟨F,1,none⟩=false
 ty:∃c f,w.heap[F]? =some (.cells c 64 f)
 own:gT w (F+1) v p
theorem WrS.lt{n:Int}(h:WrS w F v p n):F<w.heap.size:=fA h.c0
theorem WrS.ey{w':World}{n:Int}(h:WrS w F v p n)(hb:Below w.heap.size w w'):WrS w' F v p n:=
 ⟨(hb.cell (p:=⟨F,0,none⟩) h.lt).trans h.c0,(hb.cell (p:=⟨F,1,none⟩) h.lt).trans h.c1,(hb.frozen (p:=⟨F,0,none⟩) h.lt).trans h.f0,(hb.frozen (p:=⟨F,1,none⟩) h.lt).trans h.f1,(by obtain⟨c,f,e⟩:=h.ty;exact⟨c,f,(hb.block F h.lt).trans e⟩),tm h.own hb⟩
theorem xi{q:Nat}(h:q≠F):(w.setCell ⟨F,i,none⟩ x).heap[q]? =w.heap[q]? :=by
 simp only[World.setCell,aH];rw[if_neg (fun e=>h e.symm)]
theorem AI{t:TypeId}(h:∃c f,w.heap[F]? =some (.cells c t f)):∃c f,(w.setCell ⟨F,i,none⟩ x).heap[F]? =some (.cells c t f):=by
 obtain⟨c,f,e⟩:=h;exact⟨_,f,by simp only[World.setCell,aH];rw[if_pos trivial,e];rfl⟩
theorem xD(h:gT w (F+1) v p):gT (w.setCell ⟨F,i,none⟩ x) (F+1) v p:=by
 refine aA (row:=some F) h ⟨rfl,rfl,rfl,by simp[World.setCell],fun q hq hne=>xi (fun e=>hne (by rw[e]))⟩ (.inr fun e=> ?_);have:=(h.lt F e).1;omega
theorem zr.set(h:∃c f,w.heap[F]? =some (.cells c 64 f)):zr w (w.setCell ⟨F,i,none⟩ x):=fun q c t f hq h1 h2=>by
 have hne:q≠F:=fun e=>by
  subst e;obtain⟨c',f',e⟩:=h;rw[e]at hq;cases hq;exact h2 rfl
 rw[xi hne];exact hq
theorem Ea(p:List It)(x:It):jA (p++[x])=jA p++itC x:=by simp[jA]
theorem WrS.next{gg cap:Nat}{n:Int}{x:It}(h:WrS w F v p n)
 (hown:w1.ownsRow (F+1) 91 6 (.slice (some ⟨gg,0,none⟩) (p.length+1) cap) (p.length+1) (jA p++itC x))(hg:w.grownBy w1 v.ownBlock):
 w1.cell? ⟨F,0,none⟩=some v∧w1.frozen? ⟨F,0,none⟩=false∧WrS (w1.setCell ⟨F,0,none⟩ (.slice (some ⟨gg,0,none⟩) (p.length+1) cap)) F (.slice (some ⟨gg,0,none⟩) (p.length+1) cap) (p++[x]) n∧KW F w (w1.setCell ⟨F,0,none⟩ (.slice (some ⟨gg,0,none⟩) (p.length+1) cap)):=by
 have hlt:=h.lt
 have ne:some F≠v.ownBlock:=fun e=>by have:=(h.own.lt F e.symm).1;omega
 have x1:=(hg.cell_far ⟨F,0,none⟩ hlt ne).trans h.c0
 have x2:=(hg.frozen_far ⟨F,0,none⟩ hlt ne).trans h.f0
 have x3:=(hg.cell_far ⟨F,1,none⟩ hlt ne).trans h.c1
 have x4:=(hg.frozen_far ⟨F,1,none⟩ hlt ne).trans h.f1
 have x5:∃c f,w1.heap[F]? =some (.cells c 64 f):=by obtain⟨c,f,e⟩:=h.ty;exact⟨c,f,(hg.block F hlt ne).trans e⟩
 have o1:gT w1 (F+1) (.slice (some ⟨gg,0,none⟩) (p.length+1) cap) (p++[x]):=by
  unfold gT
  rw[Ea,aj]
  exact hown
 have hB:Below F w w1:=(af F w).grown hg (bJ hlt) (fun z hz=>by have:=(h.own.lt z hz).1;omega)
 refine⟨x1,x2,⟨aG _ _ _ x1,by rw[aJ _ _ _ _ (by intro e;injection e with e1 e2;cases e2)];exact x3,by rw[bZ];exact x2,by rw[bZ];exact x4,AI x5,xD o1⟩,hB.setCell (p:=⟨F,0,none⟩) (ae _) _,fun q c t f hq h1 h2=> ?_⟩
 refine zr.set x5 q c t f ?_ h1 h2
 exact(hg.block q (bf.1 hq).1 (fun e=>h1 (EG h.own e.symm hq))).trans hq
theorem WrS.labels{n:Int}(h:WrS w F v p n)(k:Int):WrS (w.setCell ⟨F,1,none⟩ (.int .i64 k)) F v p k∧KW F w (w.setCell ⟨F,1,none⟩ (.int .i64 k)):=
 ⟨⟨by rw[aJ _ _ _ _ (by intro e;injection e with e1 e2;cases e2)];exact h.c0,aG _ _ _ h.c1,by rw[bZ];exact h.f0,by rw[bZ];exact h.f1,AI h.ty,xD h.own⟩,(af F w).setCell (p:=⟨F,1,none⟩) (ae _) _,zr.set h.ty⟩
def fl(F:Nat)(p:List It)(n:Int)(w:World)(e:Ending)(w':World):Prop:=e=.returned (.tuple #[])∧(∃v',WrS w' F v' p n)∧KW F w w'
theorem kr(w:World)(F:Nat)(v:Value)(p:List It)(n:Int)(hS:WrS w F v p n)(h0:0<=n)(h1:n<=1000000):
 Calls Tryz.prog 95 #[.pointer (some ⟨F,0,none⟩)] w fun e w'=>e=.returned (.int .i64 (n+1))∧WrS w' F v p (n+1)∧KW F w w':=by
 have c1:=hS.c1;have f1:=hS.f1;have HF:Hid (WrS (w.setCell ⟨F,1,none⟩ (.int .i64 (n+1))) F v p (n+1)∧KW F w (w.setCell ⟨F,1,none⟩ (.int .i64 (n+1)))):=hS.labels (n+1);have hw:IntKind.i64.wrap (n+1)=n+1:=by rw[aT];omega
 clear hS;go_enter Tryz.func95,Tryz.ntmps95;go_wp2;go_ret;exact⟨fL (by first|rfl|omega),HF.out⟩
theorem lO(w:World)(F:Nat)(v:Value)(p:List It)(n:Int)(t:Int)(hS:WrS w F v p n)(hn:p.length<=1000000):
 Calls Tryz.prog 58 #[.pointer (some ⟨F,0,none⟩),.int .i64 t] w fun e w'=>fl F (p++[fe t]) n w e w':=by
 obtain⟨i0,hi,hz0,hz1,hz2⟩:=info_parts mr;have hbm:p.length+1<=maxLen:=by unfold maxLen;omega
 have hbd:(p.length+1)*24<=140737488355328:=by omega
 have hlt:=hS.lt;have hbs:F+1<=(w.alloc (.cells #[.int .i64 4,.int .u16 0,.int .u8 0,.int .u8 0,.int .u32 0,.int .i64 t] 91)).heap.size:=by simp;omega
 have hb:Below w.heap.size w (w.alloc (.cells #[.int .i64 4,.int .u16 0,.int .u8 0,.int .u8 0,.int .u32 0,.int .i64 t] 91)):=(af _ _).alloc (ae _) _;have c0:=hS.c0;have HS1:Hid (WrS (w.alloc (.cells #[.int .i64 4,.int .u16 0,.int .u8 0,.int .u8 0,.int .u32 0,.int .i64 t] 91)) F v p n):=hS.ey hb;have HK1:Hid (KW F w (w.alloc (.cells #[.int .i64 4,.int .u16 0,.int .u8 0,.int .u8 0,.int .u32 0,.int .i64 t] 91))):=KW.gG hb (bJ hlt);have HO:Hid ((w.alloc (.cells #[.int .i64 4,.int .u16 0,.int .u8 0,.int .u8 0,.int .u32 0,.int .i64 t] 91)).ownsRow (F+1) 91 6 v p.length (jA p)):=HS1.out.own;have HP:Hid (∀e w',e=.returned (.tuple #[])->(∃v',WrS w' F v' (p++[fe t]) n)->KW F w w'->fl F (p++[fe t]) n w e w'):=fun e w' h1 h2 h3=>⟨h1,h2,h3⟩
 clear hS hb;go_enter Tryz.func58,Tryz.ntmps58;go_wp2_with(at_builtin;refine wpList_append_lies _ rfl (.tmp 8) (.tmp 11) 60 rfl (F+1) 91 i0 _ 6 24 Tryz.underlying60 hi hz0 hz1 hz2 rfl (by decide) v p.length (jA p) rfl HO.out ⟨w.heap.size,0,none⟩ 1 1 [.int .i64 4,.int .u16 0,.int .u8 0,.int .u8 0,.int .u32 0,.int .i64 t] rfl rfl (iZ (by simp)) (by simp[Value.oneCell']) (by omega) hbm hbd hbs _ rfl ?_);intro gg cap w1 ow gr hat hlt2;obtain⟨x1,x2,x3,x4⟩:=WrS.next (x:=fe t) HS1.out ow gr;have HF:Hid (fl F (p++[fe t]) n w (.returned (.tuple #[])) (w1.setCell ⟨F,0,none⟩ (.slice (some ⟨gg,0,none⟩) (p.length+1) cap))):=HP.out _ _ rfl ⟨_,x3⟩ (HK1.out.trans x4);clear ow gr hat hlt2 x3 x4 HS1 HK1 HO HP;go_wp2;go_end0;exact HF.out
theorem tZ(w:World)(F:Nat)(v:Value)(p:List It)(n:Int)(c k:Int)(hS:WrS w F v p n)(hn:p.length<=1000000):
 Calls Tryz.prog 59 #[.pointer (some ⟨F,0,none⟩),.int .u16 c,.int .u32 k] w fun e w'=>fl F (p++[jr c k]) n w e w':=by
 obtain⟨i0,hi,hz0,hz1,hz2⟩:=info_parts mr;have hbm:p.length+1<=maxLen:=by unfold maxLen;omega
 have hbd:(p.length+1)*24<=140737488355328:=by omega
 have hlt:=hS.lt;have hbs:F+1<=(w.alloc (.cells #[.int .i64 0,.int .u16 c,.int .u8 0,.int .u8 0,.int .u32 k,.int .i64 0] 91)).heap.size:=by simp;omega
 have hb:Below w.heap.size w (w.alloc (.cells #[.int .i64 0,.int .u16 c,.int .u8 0,.int .u8 0,.int .u32 k,.int .i64 0] 91)):=(af _ _).alloc (ae _) _;have c0:=hS.c0;have HS1:Hid (WrS (w.alloc (.cells #[.int .i64 0,.int .u16 c,.int .u8 0,.int .u8 0,.int .u32 k,.int .i64 0] 91)) F v p n):=hS.ey hb;have HK1:Hid (KW F w (w.alloc (.cells #[.int .i64 0,.int .u16 c,.int .u8 0,.int .u8 0,.int .u32 k,.int .i64 0] 91))):=KW.gG hb (bJ hlt);have HO:Hid ((w.alloc (.cells #[.int .i64 0,.int .u16 c,.int .u8 0,.int .u8 0,.int .u32 k,.int .i64 0] 91)).ownsRow (F+1) 91 6 v p.length (jA p)):=HS1.out.own;have HP:Hid (∀e w',e=.returned (.tuple #[])->(∃v',WrS w' F v' (p++[jr c k]) n)->KW F w w'->fl F (p++[jr c k]) n w e w'):=fun e w' h1 h2 h3=>⟨h1,h2,h3⟩
 clear hS hb;go_enter Tryz.func59,Tryz.ntmps59;go_wp2_with(at_builtin;refine wpList_append_lies _ rfl (.tmp 10) (.tmp 15) 60 rfl (F+1) 91 i0 _ 6 24 Tryz.underlying60 hi hz0 hz1 hz2 rfl (by decide) v p.length (jA p) rfl HO.out ⟨w.heap.size,0,none⟩ 1 1 [.int .i64 0,.int .u16 c,.int .u8 0,.int .u8 0,.int .u32 k,.int .i64 0] rfl rfl (iZ (by simp)) (by simp[Value.oneCell']) (by omega) hbm hbd hbs _ rfl ?_);intro gg cap w1 ow gr hat hlt2;obtain⟨x1,x2,x3,x4⟩:=WrS.next (x:=jr c k) HS1.out ow gr;have HF:Hid (fl F (p++[jr c k]) n w (.returned (.tuple #[])) (w1.setCell ⟨F,0,none⟩ (.slice (some ⟨gg,0,none⟩) (p.length+1) cap))):=HP.out _ _ rfl ⟨_,x3⟩ (HK1.out.trans x4);clear ow gr hat hlt2 x3 x4 HS1 HK1 HO HP;go_wp2;go_end0;exact HF.out
theorem vd(w:World)(F:Nat)(v:Value)(p:List It)(n:Int)(c k t:Int)(hS:WrS w F v p n)(hn:p.length<=1000000):
 Calls Tryz.prog 126 #[.pointer (some ⟨F,0,none⟩),.int .u16 c,.int .u32 k,.int .i64 t] w fun e w'=>fl F (p++[fW c k t]) n w e w':=by
 obtain⟨i0,hi,hz0,hz1,hz2⟩:=info_parts mr;have hbm:p.length+1<=maxLen:=by unfold maxLen;omega
 have hbd:(p.length+1)*24<=140737488355328:=by omega
 have hlt:=hS.lt;have hbs:F+1<=(w.alloc (.cells #[.int .i64 1,.int .u16 c,.int .u8 0,.int .u8 0,.int .u32 k,.int .i64 t] 91)).heap.size:=by simp;omega
 have hb:Below w.heap.size w (w.alloc (.cells #[.int .i64 1,.int .u16 c,.int .u8 0,.int .u8 0,.int .u32 k,.int .i64 t] 91)):=(af _ _).alloc (ae _) _;have c0:=hS.c0;have HS1:Hid (WrS (w.alloc (.cells #[.int .i64 1,.int .u16 c,.int .u8 0,.int .u8 0,.int .u32 k,.int .i64 t] 91)) F v p n):=hS.ey hb;have HK1:Hid (KW F w (w.alloc (.cells #[.int .i64 1,.int .u16 c,.int .u8 0,.int .u8 0,.int .u32 k,.int .i64 t] 91))):=KW.gG hb (bJ hlt);have HO:Hid ((w.alloc (.cells #[.int .i64 1,.int .u16 c,.int .u8 0,.int .u8 0,.int .u32 k,.int .i64 t] 91)).ownsRow (F+1) 91 6 v p.length (jA p)):=HS1.out.own;have HP:Hid (∀e w',e=.returned (.tuple #[])->(∃v',WrS w' F v' (p++[fW c k t]) n)->KW F w w'->fl F (p++[fW c k t]) n w e w'):=fun e w' h1 h2 h3=>⟨h1,h2,h3⟩
 clear hS hb;go_enter Tryz.func126,Tryz.ntmps126;go_wp2_with(at_builtin;refine wpList_append_lies _ rfl (.tmp 12) (.tmp 18) 60 rfl (F+1) 91 i0 _ 6 24 Tryz.underlying60 hi hz0 hz1 hz2 rfl (by decide) v p.length (jA p) rfl HO.out ⟨w.heap.size,0,none⟩ 1 1 [.int .i64 1,.int .u16 c,.int .u8 0,.int .u8 0,.int .u32 k,.int .i64 t] rfl rfl (iZ (by simp)) (by simp[Value.oneCell']) (by omega) hbm hbd hbs _ rfl ?_);intro gg cap w1 ow gr hat hlt2;obtain⟨x1,x2,x3,x4⟩:=WrS.next (x:=fW c k t) HS1.out ow gr;have HF:Hid (fl F (p++[fW c k t]) n w (.returned (.tuple #[])) (w1.setCell ⟨F,0,none⟩ (.slice (some ⟨gg,0,none⟩) (p.length+1) cap))):=HP.out _ _ rfl ⟨_,x3⟩ (HK1.out.trans x4);clear ow gr hat hlt2 x3 x4 HS1 HK1 HO HP;go_wp2;go_end0;exact HF.out
theorem kh(w:World)(F:Nat)(v:Value)(p:List It)(n:Int)(c k t:Int)(hS:WrS w F v p n)(hn:p.length<=1000000):
 Calls Tryz.prog 96 #[.pointer (some ⟨F,0,none⟩),.int .u16 c,.int .u32 k,.int .i64 t] w fun e w'=>fl F (p++[fq c k t]) n w e w':=by
 obtain⟨i0,hi,hz0,hz1,hz2⟩:=info_parts mr;have hbm:p.length+1<=maxLen:=by unfold maxLen;omega
 have hbd:(p.length+1)*24<=140737488355328:=by omega
 have hlt:=hS.lt;have hbs:F+1<=(w.alloc (.cells #[.int .i64 2,.int .u16 c,.int .u8 0,.int .u8 0,.int .u32 k,.int .i64 t] 91)).heap.size:=by simp;omega
 have hb:Below w.heap.size w (w.alloc (.cells #[.int .i64 2,.int .u16 c,.int .u8 0,.int .u8 0,.int .u32 k,.int .i64 t] 91)):=(af _ _).alloc (ae _) _;have c0:=hS.c0;have HS1:Hid (WrS (w.alloc (.cells #[.int .i64 2,.int .u16 c,.int .u8 0,.int .u8 0,.int .u32 k,.int .i64 t] 91)) F v p n):=hS.ey hb;have HK1:Hid (KW F w (w.alloc (.cells #[.int .i64 2,.int .u16 c,.int .u8 0,.int .u8 0,.int .u32 k,.int .i64 t] 91))):=KW.gG hb (bJ hlt);have HO:Hid ((w.alloc (.cells #[.int .i64 2,.int .u16 c,.int .u8 0,.int .u8 0,.int .u32 k,.int .i64 t] 91)).ownsRow (F+1) 91 6 v p.length (jA p)):=HS1.out.own;have HP:Hid (∀e w',e=.returned (.tuple #[])->(∃v',WrS w' F v' (p++[fq c k t]) n)->KW F w w'->fl F (p++[fq c k t]) n w e w'):=fun e w' h1 h2 h3=>⟨h1,h2,h3⟩
 clear hS hb;go_enter Tryz.func96,Tryz.ntmps96;go_wp2_with(at_builtin;refine wpList_append_lies _ rfl (.tmp 12) (.tmp 18) 60 rfl (F+1) 91 i0 _ 6 24 Tryz.underlying60 hi hz0 hz1 hz2 rfl (by decide) v p.length (jA p) rfl HO.out ⟨w.heap.size,0,none⟩ 1 1 [.int .i64 2,.int .u16 c,.int .u8 0,.int .u8 0,.int .u32 k,.int .i64 t] rfl rfl (iZ (by simp)) (by simp[Value.oneCell']) (by omega) hbm hbd hbs _ rfl ?_);intro gg cap w1 ow gr hat hlt2;obtain⟨x1,x2,x3,x4⟩:=WrS.next (x:=fq c k t) HS1.out ow gr;have HF:Hid (fl F (p++[fq c k t]) n w (.returned (.tuple #[])) (w1.setCell ⟨F,0,none⟩ (.slice (some ⟨gg,0,none⟩) (p.length+1) cap))):=HP.out _ _ rfl ⟨_,x3⟩ (HK1.out.trans x4);clear ow gr hat hlt2 x3 x4 HS1 HK1 HO HP;go_wp2;go_end0;exact HF.out
theorem oA(w:World)(F:Nat)(v:Value)(p:List It)(n:Int)(a:Int)(hS:WrS w F v p n)(hn:p.length<=1000000)(h0:0<=a)(h1:a<=1000):
 Calls Tryz.prog 55 #[.pointer (some ⟨F,0,none⟩),.int .i64 a] w fun e w'=>fl F (p++[fi a]) n w e w':=by
 have HI:Hid (Calls Tryz.prog 59 #[.pointer (some ⟨F,0,none⟩),.int .u16 32,.int .u32 a] w fun e w'=>e=.returned (.tuple #[])∧fl F (p++[fi a]) n w (.returned (.tuple #[])) w'):=(tZ w F v p n 32 a hS hn).mono (fun e w' h=>⟨h.1,⟨rfl,h.2⟩⟩);have hw:IntKind.u32.wrap a=a:=by rw[IntKind.wrap_u32'];omega
 clear hS;go_enter Tryz.func55,Tryz.ntmps55;go_wp2_with fail;refine(HI.out).mono ?_;rintro _ w1⟨rfl,hF⟩;have HF:Hid (fl F (p++[fi a]) n w (.returned (.tuple #[])) w1):=hF;clear hF HI;go_wp2;go_end0;exact HF.out
theorem mV(a:Nat)(w:World)(ha:a<=18446744073709551615):Calls Tryz.prog 166 #[.int .u64 (a:Int)] w fun e w'=>e=.returned (.int .u32 (upH a))∧w'=w:=by
 have hu:upH a=((a/4294967296:Nat):Int):=rfl;go_enter Tryz.func166,Tryz.ntmps166;go_wp2;go_ret;exact⟨fL (by rw[hu];omega),rfl⟩
theorem mR(a:Nat)(w:World)(ha:a<=18446744073709551615):Calls Tryz.prog 167 #[.int .u64 (a:Int)] w fun e w'=>e=.returned (.int .u32 (loH a))∧w'=w:=by
 have hu:loH a=((a%4294967296:Nat):Int):=rfl;go_enter Tryz.func167,Tryz.ntmps167;go_wp2;go_ret;exact⟨fL (by rw[hu];omega),rfl⟩
theorem rD(w:World)(F:Nat)(v:Value)(p:List It)(n:Int)(m b a fail:Int)(hS:WrS w F v p n)(hn:p.length<=900000)(h0:0<=a)(h1:a<=1000):
 Calls Tryz.prog 165 #[.pointer (some ⟨F,0,none⟩),.int .u32 m,.int .u32 b,.int .i64 a,.int .i64 fail] w fun e w'=>fl F (p++ig a m b fail) n w e w':=by
 have HL:Hid (∀w1 v1 q,WrS w1 F v1 q n->q.length<=1000000->Calls Tryz.prog 55 #[.pointer (some ⟨F,0,none⟩),.int .i64 a] w1 fun e w'=>e=.returned (.tuple #[])∧(∃v',WrS w' F v' (q++[fi a]) n)∧KW F w1 w'):=fun w1 v1 q h hq=>oA w1 F v1 q n a h hq h0 h1
 have HI:Hid (∀w1 v1 q,WrS w1 F v1 q n->q.length<=1000000->Calls Tryz.prog 59 #[.pointer (some ⟨F,0,none⟩),.int .u16 84,.int .u32 m] w1 fun e w'=>e=.returned (.tuple #[])∧(∃v',WrS w' F v' (q++[jr 84 m]) n)∧KW F w1 w'):=fun w1 v1 q h hq=>tZ w1 F v1 q n 84 m h hq
 have HU:Hid (∀w1 v1 q,WrS w1 F v1 q n->q.length<=1000000->Calls Tryz.prog 96 #[.pointer (some ⟨F,0,none⟩),.int .u16 21,.int .u32 b,.int .i64 fail] w1 fun e w'=>e=.returned (.tuple #[])∧(∃v',WrS w' F v' (q++[fq 21 b fail]) n)∧KW F w1 w'):=fun w1 v1 q h hq=>kh w1 F v1 q n 21 b fail h hq
 have HP:Hid (∀w' v' q,p++ig a m b fail=q->WrS w' F v' q n->KW F w w'->fl F (p++ig a m b fail) n w (.returned (.tuple #[])) w'):=fun w' v' q e h2 h3=>⟨rfl,⟨v',e▸h2⟩,h3⟩
 have HE0:Hid (m=0->p++ig a m b fail=p):=fun h=>by unfold ig;rw[if_pos h,bM]
 have HE1:Hid (m≠0->m=4294967295->p++ig a m b fail=p++[fi a]++[fq 21 b fail]):=fun h h'=>by unfold ig;rw[if_neg h,if_pos h'];simp
 have HE2:Hid (m≠0->m≠4294967295->p++ig a m b fail=p++[fi a]++[jr 84 m]++[fq 21 b fail]):=fun h h'=>by unfold ig;rw[if_neg h,if_neg h'];simp
 generalize ig a m b fail=ml at*;go_enter Tryz.func165,Tryz.ntmps165;by_cases hm:m=0
 ·have HF:Hid (fl F (p++ml) n w (.returned (.tuple #[])) w):=HP.out w v p (HE0.out hm) hS (KW.refl _ _);subst hm;clear HL HI HU HP HE0 HE1 HE2 hS;go_wp2;exact bodyPost_ret (v:=.tuple #[]) (by simp[results,Tryz.results165]) rfl HF.out
 have hm':(m==0)=false:=by simpa using hm
 by_cases hx:m=4294967295
 ·have hE:=HE1.out hm hx;have HE:Hid (p++ml=p++[fi a]++[fq 21 b fail]):=hE;clear hE HE0 HE1 HE2 HI hm hm';subst hx;go_wp2_with fail;refine(HL.out _ v p hS (by omega)).mono ?_;rintro _ w1⟨rfl,⟨v1,hS1⟩,hK1⟩;go_wp2_with fail;refine(HU.out _ v1 _ hS1 (by simp;omega)).mono ?_;rintro _ w2⟨rfl,⟨v2,hS2⟩,hK2⟩;have HF:Hid (fl F (p++ml) n w (.returned (.tuple #[])) w2):=HP.out w2 v2 _ HE.out hS2 (hK1.trans hK2);clear HL HU HP HE hS hS1 hS2 hK1 hK2;go_wp2;go_end0;exact HF.out
 have hE:=HE2.out hm hx;have HE:Hid (p++ml=p++[fi a]++[jr 84 m]++[fq 21 b fail]):=hE;have hx':(m==4294967295)=false:=by simpa using hx
 have hx2:(m !=4294967295)=true:=by simpa using hx
 clear hE HE0 HE1 HE2;go_wp2_with fail;refine(HL.out _ v p hS (by omega)).mono ?_;rintro _ w1⟨rfl,⟨v1,hS1⟩,hK1⟩;go_wp2_with fail;refine(HI.out _ v1 _ hS1 (by simp;omega)).mono ?_;rintro _ w2⟨rfl,⟨v2,hS2⟩,hK2⟩;go_wp2_with fail;refine(HU.out _ v2 _ hS2 (by simp;omega)).mono ?_;rintro _ w3⟨rfl,⟨v3,hS3⟩,hK3⟩;have HF:Hid (fl F (p++ml) n w (.returned (.tuple #[])) w3):=HP.out w3 v3 _ HE.out hS3 ((hK1.trans hK2).trans hK3);clear HL HI HU HP HE hS hS1 hS2 hS3 hK1 hK2 hK3;go_wp2;go_end0;exact HF.out
theorem xG (w : World) (F : Nat) (v : Value) (p : List It) (n : Int) (x : Nat) (a fail : Int) (hS : WrS w F v p n) (hn : p.length <= 900000) (h0 : 0 <= a) (h1 : a <= 900) (hx : x <= 18446744073709551615) (hn0 : 0 <= n) (hn1 : n <= 900000) :
    Calls Tryz.prog 168 #[.pointer (some ⟨F, 0, none⟩), .int .u64 (x : Int), .int .i64 a, .int .i64 fail] w fun e w' => fl F (p ++ ly x a fail (n + 1)) (if x = 0 then n else n + 1) w e w' := by
  have HN : Hid (Calls Tryz.prog 95 #[.pointer (some ⟨F, 0, none⟩)] w fun e w' => e = .returned (.int .i64 (n + 1)) ∧ WrS w' F v p (n + 1) ∧ KW F w w') := kr w F v p n hS hn0 (by omega)
  have HL : Hid (∀ w1 v1 q a', WrS w1 F v1 q (n + 1) -> q.length <= 1000000 -> 0 <= a' -> a' <= 1000 -> Calls Tryz.prog 55 #[.pointer (some ⟨F, 0, none⟩), .int .i64 a'] w1 fun e w' => e = .returned (.tuple #[]) ∧ (∃ v', WrS w' F v' (q ++ [fi a']) (n + 1)) ∧ KW F w1 w') := fun w1 v1 q a' h hq g0 g1 => oA w1 F v1 q (n + 1) a' h hq g0 g1
  have HU : Hid (∀ w1 v1 q c k t, WrS w1 F v1 q (n + 1) -> q.length <= 1000000 -> Calls Tryz.prog 96 #[.pointer (some ⟨F, 0, none⟩), .int .u16 c, .int .u32 k, .int .i64 t] w1 fun e w' => e = .returned (.tuple #[]) ∧ (∃ v', WrS w' F v' (q ++ [fq c k t]) (n + 1)) ∧ KW F w1 w') := fun w1 v1 q c k t h hq => kh w1 F v1 q (n + 1) c k t h hq
  have HG : Hid (∀ w1 v1 q c k t, WrS w1 F v1 q (n + 1) -> q.length <= 1000000 -> Calls Tryz.prog 126 #[.pointer (some ⟨F, 0, none⟩), .int .u16 c, .int .u32 k, .int .i64 t] w1 fun e w' => e = .returned (.tuple #[]) ∧ (∃ v', WrS w' F v' (q ++ [fW c k t]) (n + 1)) ∧ KW F w1 w') := fun w1 v1 q c k t h hq => vd w1 F v1 q (n + 1) c k t h hq
  have HB : Hid (∀ w1 v1 q t, WrS w1 F v1 q (n + 1) -> q.length <= 1000000 -> Calls Tryz.prog 58 #[.pointer (some ⟨F, 0, none⟩), .int .i64 t] w1 fun e w' => e = .returned (.tuple #[]) ∧ (∃ v', WrS w' F v' (q ++ [fe t]) (n + 1)) ∧ KW F w1 w') := fun w1 v1 q t h hq => lO w1 F v1 q (n + 1) t h hq
  have HUp : Hid (∀ w1, Calls Tryz.prog 166 #[.int .u64 (x : Int)] w1 fun e w' => e = .returned (.int .u32 (upH x)) ∧ w' = w1) := fun w1 => mV x w1 hx
  have HLo : Hid (∀ w1, Calls Tryz.prog 167 #[.int .u64 (x : Int)] w1 fun e w' => e = .returned (.int .u32 (loH x)) ∧ w' = w1) := fun w1 => mR x w1 hx
  have hp : ∀ q : List It, q.length <= 6 -> (p ++ q).length <= 1000000 := fun q hq => by simp; omega
  go_enter Tryz.func168, Tryz.ntmps168
  by_cases hz : x = 0
  · have HF : Hid (fl F (p ++ ly x a fail (n + 1)) (if x = 0 then n else n + 1) w (.returned (.tuple #[])) w) := by
      unfold ly
      rw [if_pos hz, if_pos hz, bM]
      exact ⟨rfl, ⟨v, hS⟩, KW.refl _ _⟩
    subst hz
    generalize ly _ a fail (n + 1) = ll at *
    clear HN HL HU HG HB HUp HLo hS
    go_wp2
    exact bodyPost_ret (v := .tuple #[]) (by simp [results, Tryz.results168]) rfl HF.out
  · have HP : Hid (∀ w' v', WrS w' F v' (p ++ td x a fail (n + 1)) (n + 1) -> KW F w w' -> fl F (p ++ ly x a fail (n + 1)) (if x = 0 then n else n + 1) w (.returned (.tuple #[])) w') := fun w' v' h2 h3 => by
      unfold ly
      rw [if_neg hz, if_neg hz]
      exact ⟨rfl, ⟨v', h2⟩, h3⟩
    generalize ly x a fail (n + 1) = ll at *
    generalize (if x = 0 then n else n + 1) = nn at *
    have hz' : ((x : Int) == 0) = false := by simp; omega
    have hzz : ¬ (x : Int) = 0 := by omega
    have hw4 : IntKind.i64.wrap (a + 4) = a + 4 := by rw [aT]; omega
    clear hz
    have HI : Hid (td x a fail (n + 1) = [fi (a + 4), fW 37 (upH x) (n + 1), fq 21 (upH x) (fail), fi (a), fq 53 (loH x) (fail), fe (n + 1)]) := rfl
    generalize td x a fail (n + 1) = il at *
    generalize hup : upH x = ux at *
    generalize hlo : loH x = lx at *
    clear hup hlo hn
    go_wp2_with fail
    refine (HN.out).mono ?_
    rintro _ w1 ⟨rfl, hS1, hK1⟩
    clear hS HN
    go_wp2_with fail
    refine (HL.out _ v p (a + 4) hS1 (by have := hp []; simp at this; omega) (by omega) (by omega)).mono ?_
    rintro _ w2 ⟨rfl, ⟨v2, hS2⟩, hKb⟩
    have hK2 := hK1.trans hKb
    clear hKb hK1 hS1
    go_wp2_with fail
    refine (HUp.out _).mono ?_
    rintro _ w2 ⟨rfl, rfl⟩
    go_wp2_with fail
    refine (HG.out _ v2 (p ++ [fi (a + 4)]) 37 ux (n + 1) hS2 (hp _ (by simp))).mono ?_
    rintro _ w3 ⟨rfl, ⟨v3, hS3⟩, hKb⟩
    have hK3 := hK2.trans hKb
    clear hKb hK2 hS2
    rw [aF] at hS3
    simp only [aO, bp] at hS3
    go_wp2_with fail
    refine (HUp.out _).mono ?_
    rintro _ w3 ⟨rfl, rfl⟩
    go_wp2_with fail
    refine (HU.out _ v3 (p ++ [fi (a + 4), fW 37 ux (n + 1)]) 21 ux (fail) hS3 (hp _ (by simp))).mono ?_
    rintro _ w4 ⟨rfl, ⟨v4, hS4⟩, hKb⟩
    have hK4 := hK3.trans hKb
    clear hKb hK3 hS3
    rw [aF] at hS4
    simp only [aO, bp] at hS4
    go_wp2_with fail
    refine (HL.out _ v4 (p ++ [fi (a + 4), fW 37 ux (n + 1), fq 21 ux (fail)]) (a) hS4 (hp _ (by simp)) (by omega) (by omega)).mono ?_
    rintro _ w5 ⟨rfl, ⟨v5, hS5⟩, hKb⟩
    have hK5 := hK4.trans hKb
    clear hKb hK4 hS4
    rw [aF] at hS5
    simp only [aO, bp] at hS5
    go_wp2_with fail
    refine (HLo.out _).mono ?_
    rintro _ w5 ⟨rfl, rfl⟩
    go_wp2_with fail
    refine (HU.out _ v5 (p ++ [fi (a + 4), fW 37 ux (n + 1), fq 21 ux (fail), fi (a)]) 53 lx (fail) hS5 (hp _ (by simp))).mono ?_
    rintro _ w6 ⟨rfl, ⟨v6, hS6⟩, hKb⟩
    have hK6 := hK5.trans hKb
    clear hKb hK5 hS5
    rw [aF] at hS6
    simp only [aO, bp] at hS6
    go_wp2_with fail
    refine (HB.out _ v6 (p ++ [fi (a + 4), fW 37 ux (n + 1), fq 21 ux (fail), fi (a), fq 53 lx (fail)]) (n + 1) hS6 (hp _ (by simp))).mono ?_
    rintro _ w7 ⟨rfl, ⟨v7, hS7⟩, hKb⟩
    have hK7 := hK6.trans hKb
    clear hKb hK6 hS6
    rw [aF] at hS7
    simp only [aO, bp] at hS7
    have HF : Hid (fl F (p ++ ll) nn w (.returned (.tuple #[])) w7) := HP.out w7 v7 (by rw [HI.out]; exact hS7) hK7
    clear HL HU HG HB HUp HLo HP HI hS7 hK7
    go_wp2
    go_end0
    exact HF.out
theorem wJ (w : World) (F : Nat) (v : Value) (p : List It) (n : Int) (x : Nat) (a fail : Int) (hS : WrS w F v p n) (hn : p.length <= 900000) (h0 : 0 <= a) (h1 : a <= 900) (hx : x <= 18446744073709551615) (hn0 : 0 <= n) (hn1 : n <= 900000) :
    Calls Tryz.prog 169 #[.pointer (some ⟨F, 0, none⟩), .int .u64 (x : Int), .int .i64 a, .int .i64 fail] w fun e w' => fl F (p ++ jy x a fail (n + 1)) (if x = 18446744073709551615 then n else n + 1) w e w' := by
  have HN : Hid (Calls Tryz.prog 95 #[.pointer (some ⟨F, 0, none⟩)] w fun e w' => e = .returned (.int .i64 (n + 1)) ∧ WrS w' F v p (n + 1) ∧ KW F w w') := kr w F v p n hS hn0 (by omega)
  have HL : Hid (∀ w1 v1 q a', WrS w1 F v1 q (n + 1) -> q.length <= 1000000 -> 0 <= a' -> a' <= 1000 -> Calls Tryz.prog 55 #[.pointer (some ⟨F, 0, none⟩), .int .i64 a'] w1 fun e w' => e = .returned (.tuple #[]) ∧ (∃ v', WrS w' F v' (q ++ [fi a']) (n + 1)) ∧ KW F w1 w') := fun w1 v1 q a' h hq g0 g1 => oA w1 F v1 q (n + 1) a' h hq g0 g1
  have HU : Hid (∀ w1 v1 q c k t, WrS w1 F v1 q (n + 1) -> q.length <= 1000000 -> Calls Tryz.prog 96 #[.pointer (some ⟨F, 0, none⟩), .int .u16 c, .int .u32 k, .int .i64 t] w1 fun e w' => e = .returned (.tuple #[]) ∧ (∃ v', WrS w' F v' (q ++ [fq c k t]) (n + 1)) ∧ KW F w1 w') := fun w1 v1 q c k t h hq => kh w1 F v1 q (n + 1) c k t h hq
  have HG : Hid (∀ w1 v1 q c k t, WrS w1 F v1 q (n + 1) -> q.length <= 1000000 -> Calls Tryz.prog 126 #[.pointer (some ⟨F, 0, none⟩), .int .u16 c, .int .u32 k, .int .i64 t] w1 fun e w' => e = .returned (.tuple #[]) ∧ (∃ v', WrS w' F v' (q ++ [fW c k t]) (n + 1)) ∧ KW F w1 w') := fun w1 v1 q c k t h hq => vd w1 F v1 q (n + 1) c k t h hq
  have HB : Hid (∀ w1 v1 q t, WrS w1 F v1 q (n + 1) -> q.length <= 1000000 -> Calls Tryz.prog 58 #[.pointer (some ⟨F, 0, none⟩), .int .i64 t] w1 fun e w' => e = .returned (.tuple #[]) ∧ (∃ v', WrS w' F v' (q ++ [fe t]) (n + 1)) ∧ KW F w1 w') := fun w1 v1 q t h hq => lO w1 F v1 q (n + 1) t h hq
  have HUp : Hid (∀ w1, Calls Tryz.prog 166 #[.int .u64 (x : Int)] w1 fun e w' => e = .returned (.int .u32 (upH x)) ∧ w' = w1) := fun w1 => mV x w1 hx
  have HLo : Hid (∀ w1, Calls Tryz.prog 167 #[.int .u64 (x : Int)] w1 fun e w' => e = .returned (.int .u32 (loH x)) ∧ w' = w1) := fun w1 => mR x w1 hx
  have hp : ∀ q : List It, q.length <= 6 -> (p ++ q).length <= 1000000 := fun q hq => by simp; omega
  go_enter Tryz.func169, Tryz.ntmps169
  by_cases hz : x = 18446744073709551615
  · have HF : Hid (fl F (p ++ jy x a fail (n + 1)) (if x = 18446744073709551615 then n else n + 1) w (.returned (.tuple #[])) w) := by
      unfold jy
      rw [if_pos hz, if_pos hz, bM]
      exact ⟨rfl, ⟨v, hS⟩, KW.refl _ _⟩
    subst hz
    generalize jy _ a fail (n + 1) = ll at *
    clear HN HL HU HG HB HUp HLo hS
    go_wp2
    exact bodyPost_ret (v := .tuple #[]) (by simp [results, Tryz.results169]) rfl HF.out
  · have HP : Hid (∀ w' v', WrS w' F v' (p ++ nf x a fail (n + 1)) (n + 1) -> KW F w w' -> fl F (p ++ jy x a fail (n + 1)) (if x = 18446744073709551615 then n else n + 1) w (.returned (.tuple #[])) w') := fun w' v' h2 h3 => by
      unfold jy
      rw [if_neg hz, if_neg hz]
      exact ⟨rfl, ⟨v', h2⟩, h3⟩
    generalize jy x a fail (n + 1) = ll at *
    generalize (if x = 18446744073709551615 then n else n + 1) = nn at *
    have hz' : ((x : Int) == 18446744073709551615) = false := by simp; omega
    have hzz : ¬ (x : Int) = 18446744073709551615 := by omega
    have hw4 : IntKind.i64.wrap (a + 4) = a + 4 := by rw [aT]; omega
    clear hz
    have HI : Hid (nf x a fail (n + 1) = [fi (a + 4), fW 37 (upH x) (fail), fq 21 (upH x) (n + 1), fi (a), fW 37 (loH x) (fail), fe (n + 1)]) := rfl
    generalize nf x a fail (n + 1) = il at *
    generalize hup : upH x = ux at *
    generalize hlo : loH x = lx at *
    clear hup hlo hn
    go_wp2_with fail
    refine (HN.out).mono ?_
    rintro _ w1 ⟨rfl, hS1, hK1⟩
    clear hS HN
    go_wp2_with fail
    refine (HL.out _ v p (a + 4) hS1 (by have := hp []; simp at this; omega) (by omega) (by omega)).mono ?_
    rintro _ w2 ⟨rfl, ⟨v2, hS2⟩, hKb⟩
    have hK2 := hK1.trans hKb
    clear hKb hK1 hS1
    go_wp2_with fail
    refine (HUp.out _).mono ?_
    rintro _ w2 ⟨rfl, rfl⟩
    go_wp2_with fail
    refine (HG.out _ v2 (p ++ [fi (a + 4)]) 37 ux (fail) hS2 (hp _ (by simp))).mono ?_
    rintro _ w3 ⟨rfl, ⟨v3, hS3⟩, hKb⟩
    have hK3 := hK2.trans hKb
    clear hKb hK2 hS2
    rw [aF] at hS3
    simp only [aO, bp] at hS3
    go_wp2_with fail
    refine (HUp.out _).mono ?_
    rintro _ w3 ⟨rfl, rfl⟩
    go_wp2_with fail
    refine (HU.out _ v3 (p ++ [fi (a + 4), fW 37 ux (fail)]) 21 ux (n + 1) hS3 (hp _ (by simp))).mono ?_
    rintro _ w4 ⟨rfl, ⟨v4, hS4⟩, hKb⟩
    have hK4 := hK3.trans hKb
    clear hKb hK3 hS3
    rw [aF] at hS4
    simp only [aO, bp] at hS4
    go_wp2_with fail
    refine (HL.out _ v4 (p ++ [fi (a + 4), fW 37 ux (fail), fq 21 ux (n + 1)]) (a) hS4 (hp _ (by simp)) (by omega) (by omega)).mono ?_
    rintro _ w5 ⟨rfl, ⟨v5, hS5⟩, hKb⟩
    have hK5 := hK4.trans hKb
    clear hKb hK4 hS4
    rw [aF] at hS5
    simp only [aO, bp] at hS5
    go_wp2_with fail
    refine (HLo.out _).mono ?_
    rintro _ w5 ⟨rfl, rfl⟩
    go_wp2_with fail
    refine (HG.out _ v5 (p ++ [fi (a + 4), fW 37 ux (fail), fq 21 ux (n + 1), fi (a)]) 37 lx (fail) hS5 (hp _ (by simp))).mono ?_
    rintro _ w6 ⟨rfl, ⟨v6, hS6⟩, hKb⟩
    have hK6 := hK5.trans hKb
    clear hKb hK5 hS5
    rw [aF] at hS6
    simp only [aO, bp] at hS6
    go_wp2_with fail
    refine (HB.out _ v6 (p ++ [fi (a + 4), fW 37 ux (fail), fq 21 ux (n + 1), fi (a), fW 37 lx (fail)]) (n + 1) hS6 (hp _ (by simp))).mono ?_
    rintro _ w7 ⟨rfl, ⟨v7, hS7⟩, hKb⟩
    have hK7 := hK6.trans hKb
    clear hKb hK6 hS6
    rw [aF] at hS7
    simp only [aO, bp] at hS7
    have HF : Hid (fl F (p ++ ll) nn w (.returned (.tuple #[])) w7) := HP.out w7 v7 (by rw [HI.out]; exact hS7) hK7
    clear HL HU HG HB HUp HLo HP HI hS7 hK7
    go_wp2
    go_end0
    exact HF.out
end Go.Proofs.YtdihdapmphkhpaaGreat
