import Derived.Shelf.SlSortCmp.InsertionK
import Derived.Laws.IdiomCopy
import Derived.Shelf.SlSortCmp.WholeK
import Derived.Shelf.SlSortCmp.NoneTotal
import Derived.Test.YtdihdapmphkhpaaGreatQ19
set_option linter.all false
set_option maxRecDepth 200000
set_option maxHeartbeats 16000000
namespace Go.Proofs.YtdihdapmphkhpaaGreat
open Go.Shelf Go.RowKit Go.Lib Go.Sort
def LB(w w':World):Prop:=Below w.heap.size w w'∧w.drawn<=w'.drawn
theorem LB.refl(w:World):LB w w:=⟨af _ _,ae _⟩
theorem LB.trans{a b c:World}(h:LB a b)(h':LB b c):LB a c:=⟨h.1.trans (h'.1.mono h.1.size),aW h.2 h'.2⟩
theorem LB.alloc{a b:World}(h:LB a b)(o:Obj):LB a (b.alloc o):=⟨h.1.alloc h.1.size o,h.2⟩
theorem LB.drew{a b:World}(h:LB a b):LB a b.drew:=⟨h.1.drew,dp h.2⟩
theorem LB.drewN{a b:World}(h:LB a b)(n:Nat):LB a (b.drewN n):=⟨below_drewN h.1 n,Nat.le_add_right_of_le h.2⟩
theorem drawn_setCell(w:World)(p:Addr)(v:Value):(w.setCell p v).drawn=w.drawn:=by
 unfold World.setCell;(first|rfl|(split<;>rfl)|(split<;>(try split)<;>rfl))
theorem LB.setCell{a b:World}(h:LB a b){p:Addr}(hp:a.heap.size<=p.block)(v:Value):LB a (b.setCell p v):=⟨h.1.setCell hp v,by rw[drawn_setCell];exact h.2⟩
theorem LB.lays{w w':World}(h:LB w w'):∃q os,w'=grow (w.drewN q) os:=by
 obtain⟨⟨h1,h2,h3,h4,h5⟩,h6⟩:=h;refine⟨w'.drawn-w.drawn,w'.heap.extract w.heap.size w'.heap.size,?_⟩;obtain⟨heap,tape,drawn,os,output⟩:=w;obtain⟨heap',tape',drawn',os',output'⟩:=w';simp only at h1 h2 h3 h4 h5 h6;subst h1;subst h2;subst h3;simp only[grow,World.drewN,World.mk.injEq,true_and,and_true];refine⟨?_,by omega⟩;apply Array.ext_getElem?;intro i;by_cases hi:i<heap.size
 ·rw[Array.getElem?_append_left hi];exact h5 i hi
 rw[Array.getElem?_append_right (by omega)];by_cases h2:i<heap'.size
 ·rw[Array.getElem?_extract];simp only[Nat.min_self];rw[if_pos (by omega)];congr 1;omega
 rw[cI (by omega),cI (by simp;omega)]
theorem AY(a b:Nat)(w:World):
 Calls Tryz.prog 193 #[.agg #[.int .u64 (a:Int),.int .u64 (b:Int)]] w fun e w'=>e=.returned (fC ⟨1,a,b⟩)∧LB w w':=by
 go_enter Tryz.func193,Tryz.ntmps193;go_wp2;refine bodyPost_ret (v:=fC ⟨1,a,b⟩) (by simp[results,Tryz.results193,go_sem]) rfl ⟨rfl,?_⟩;exact((LB.refl _).alloc _).alloc _
theorem AN(a b:Nat)(w:World):
 Calls Tryz.prog 198 #[.agg #[.int .u64 (a:Int),.int .u64 (b:Int)]] w fun e w'=>e=.returned (fC ⟨2,a,b⟩)∧LB w w':=by
 go_enter Tryz.func198,Tryz.ntmps198;go_wp2;refine bodyPost_ret (v:=fC ⟨2,a,b⟩) (by simp[results,Tryz.results198,go_sem]) rfl ⟨rfl,?_⟩;exact((LB.refl _).alloc _).alloc _
theorem DF(w:World):
 Calls Tryz.prog 188 #[.agg #[]] w fun e w'=>e=.returned (fC ⟨0,0,0⟩)∧LB w w':=by
 go_enter Tryz.func188,Tryz.ntmps188;go_wp2;refine bodyPost_ret (v:=fC ⟨0,0,0⟩) (by simp[results,Tryz.results188,go_sem]) rfl ⟨rfl,?_⟩;exact((LB.refl _).alloc _).alloc _
def De(c:K):Prop:=∃T P F,gh c=.iface T P∧(∀w,(method 349 T P "loop.example/s0039/impl.con").run Tryz.prog w=.ok (F,P) w)∧(∀(xs:Array Value)(w:World),(callFunc F xs).run Tryz.prog w=.ok (.enter F xs) w)∧(∀w,(nilAhead 349 T P "loop.example/s0039/impl.con").run Tryz.prog w=.ok (some false) w)∧
 ∀w,Calls Tryz.prog F #[P] w fun e w'=>e=.returned (fC c)∧LB w w'
theorem Fl{c:K}(h:fZ c):De c:=by
 rcases h with rfl|⟨a,b,rfl,_⟩|⟨a,b,rfl,_⟩
 ·exact⟨_,_,188,rfl,fun _=>by kernel_rfl,fun _ _=>by kernel_rfl,fun _=>by kernel_rfl,DF⟩
 ·exact⟨_,_,193,rfl,fun _=>by kernel_rfl,fun _ _=>by kernel_rfl,fun _=>by kernel_rfl,AY a b⟩
 exact⟨_,_,198,rfl,fun _=>by kernel_rfl,fun _ _=>by kernel_rfl,fun _=>by kernel_rfl,AN a b⟩
theorem qM(x:Int)(w:World):Calls Tryz.prog 153 #[.int .i64 x] w fun e w'=>e=.returned (.bool false)∧w'=w:=by
 go_enter Tryz.func153,Tryz.ntmps153;go_wp2;go_ret;exact⟨rfl,rfl⟩
theorem FB(x y:Int)(w:World):Calls Tryz.prog 132 #[.int .i64 x,.int .i64 y] w fun e w'=>e=.returned (.int .i64 (fM x y))∧w'=w:=by
 rcases dM x y with h|h|h
 ·rw[ph h];go_enter Tryz.func132,Tryz.ntmps132;go_wp2_with(go_at_call 153;refine(qM _ _).mono ?_;rintro e w'⟨rfl,rfl⟩);go_ret;exact⟨rfl,rfl⟩
 ·rw[ni h];subst h;go_enter Tryz.func132,Tryz.ntmps132;go_wp2_with(go_at_call 153;refine(qM _ _).mono ?_;rintro e w'⟨rfl,rfl⟩);go_ret;exact⟨rfl,rfl⟩
 rw[oT h];go_enter Tryz.func132,Tryz.ntmps132;go_wp2_with(go_at_call 153;refine(qM _ _).mono ?_;rintro e w'⟨rfl,rfl⟩);go_ret;exact⟨rfl,rfl⟩
theorem F6(x y z:Int):or3 x y z=rG x (rG y z):=by
 unfold or3 rG;by_cases h:x=0
 ·rw[if_neg (by simpa using h),if_pos h];by_cases h2:y=0
  ·rw[if_neg (by simpa using h2),if_pos h2]
  rw[if_pos h2,if_neg h2]
 rw[if_pos h,if_neg h]
theorem natU{a:Nat}(h:a<18446744073709551616):gA (a:Int):=by unfold gA;omega
theorem tM(c d:K)(w:World)(hc:c.ok)(hd:d.ok):
 Calls Tryz.prog 105 #[fC c,fC d] w fun e w'=>e=.returned (.int .i64 (my c d))∧LB w w':=by
 have e:my c d=or3 (fM c.kind d.kind) (fM c.a d.a) (fM c.b d.b):=(F6 _ _ _).symm
 rw[e]
 clear e
 have HI:Hid (∀w1 p q,Calls Tryz.prog 132 #[.int .i64 p,.int .i64 q] w1 fun e w'=>e=.returned (.int .i64 (fM p q))∧w'=w1):=fun w1 p q=>FB p q w1
 have HA:Hid (∀w1 p q,gA p->gA q->Calls Tryz.prog 133 #[.int .u64 p,.int .u64 q] w1 fun e w'=>e=.returned (.int .i64 (fM p q))∧w'=w1):=fun w1 p q h1 h2=>DY p q w1 h1 h2
 have u1:=natU hc.2.1
 have u2:=natU hc.2.2
 have u3:=natU hd.2.1
 have u4:=natU hd.2.2
 clear hc hd
 obtain⟨ck,ca,cb⟩:=c
 obtain⟨dk,da,db⟩:=d
 simp only[fC]at*
 obtain⟨x,hx⟩:∃x,fM ck dk=x:=⟨_,rfl⟩
 obtain⟨y,hy⟩:∃y,fM (ca:Int) (da:Int)=y:=⟨_,rfl⟩
 obtain⟨z,hz⟩:∃z,fM (cb:Int) (db:Int)=z:=⟨_,rfl⟩
 have HX:Hid (fM ck dk=x):=hx
 have HY:Hid (fM (ca:Int) (da:Int)=y):=hy
 have HZ:Hid (fM (cb:Int) (db:Int)=z):=hz
 clear hx hy hz
 rw[HX.out,HY.out,HZ.out]
 generalize(ca:Int)=a at*
 generalize(cb:Int)=b at*
 generalize(da:Int)=a' at*
 generalize(db:Int)=b' at*
 go_enter Tryz.func105,Tryz.ntmps105
 go_wp2_with fail
 have X:=(gu.new w 84 (.int .i64 ck) (.int .u64 a) (.int .u64 b)).alloc (.cells #[.int .i64 dk,.int .u64 a',.int .u64 b'] 84)
 have Y:=gu.new (w.alloc (.cells #[.int .i64 ck,.int .u64 a,.int .u64 b] 84)) 84 (.int .i64 dk) (.int .u64 a') (.int .u64 b')
 have hsz:(w.alloc (.cells #[.int .i64 ck,.int .u64 a,.int .u64 b] 84)).heap.size=w.heap.size+1:=by simp
 rw[hsz]at Y
 have HG:Hid (∀o,LB w (((w.alloc (.cells #[.int .i64 ck,.int .u64 a,.int .u64 b] 84)).alloc (.cells #[.int .i64 dk,.int .u64 a',.int .u64 b'] 84)).alloc o).drew):=fun o=>((((LB.refl w).alloc _).alloc _).alloc o).drew
 generalize(w.alloc (.cells #[.int .i64 ck,.int .u64 a,.int .u64 b] 84)).alloc (.cells #[.int .i64 dk,.int .u64 a',.int .u64 b'] 84)=W at*
 clear hsz
 obtain⟨_,x0,x1,x2,_,_,_⟩:=X
 obtain⟨_,y0,y1,y2,_,_,_⟩:=Y
 have HOr:Hid (∀w1:World,Calls Tryz.prog 89 #[.slice (some ⟨w1.heap.size,0,none⟩) 3 3] (w1.alloc (.cells #[.int .i64 (fM ck dk),.int .i64 (fM a a'),.int .i64 (fM b b')] 3)).drew fun e w'=>e=.returned (.int .i64 (or3 x y z))∧w'=(w1.alloc (.cells #[.int .i64 (fM ck dk),.int .i64 (fM a a'),.int .i64 (fM b b')] 3)).drew):=by
  intro w1
  rw[<-HX.out,<-HY.out,<-HZ.out]
  refine DZ w1.heap.size _ _ _ _ (fun j hj=> ?_)
  have:j=0∨j=1∨j=2:=by omega
  rcases this with rfl|rfl|rfl<;>simp[tO]
 go_region_held3(fun w'=>w'.cell? ⟨w.heap.size,0,none⟩=some (.int .i64 ck)∧w'.cell? ⟨w.heap.size,1,none⟩=some (.int .u64 a)∧w'.cell? ⟨w.heap.size,2,none⟩=some (.int .u64 b)∧w'.cell? ⟨w.heap.size+1,0,none⟩=some (.int .i64 dk)∧w'.cell? ⟨w.heap.size+1,1,none⟩=some (.int .u64 a')∧w'.cell? ⟨w.heap.size+1,2,none⟩=some (.int .u64 b'))
  (refine⟨?_,?_,?_,?_,?_,?_⟩<;>first|assumption|exact tF _ (by assumption)|(simp[*];done))
  (first
   |(go_at_call 132;refine(HI.out _ _ _).mono ?_;rintro e w'⟨rfl,rfl⟩)
   |(go_at_call 133;refine(HA.out _ _ _ (by assumption) (by assumption)).mono ?_;rintro e w'⟨rfl,rfl⟩)
   |(go_at_call 89;refine(HOr.out _).mono ?_;rintro e w'⟨rfl,rfl⟩))
 have B1:=HG.out (.cells #[.int .i64 (fM ck dk),.int .i64 (fM a a'),.int .i64 (fM b b')] 3)
 clear HG
 go_wp2
 go_ret
 exact⟨rfl,B1⟩
def kY(r:Ru):List Value:=[gh (r.getD 0 K.zero),gh (r.getD 1 K.zero),gh (r.getD 2 K.zero),gh (r.getD 3 K.zero),gh (r.getD 4 K.zero),gh (r.getD 5 K.zero)]
theorem CU(r:Ru){i:Nat}(h:i<6):(kY r)[i]? =some (gh (r.getD i K.zero)):=by
 have:i=0∨i=1∨i=2∨i=3∨i=4∨i=5:=by omega
 rcases this with rfl|rfl|rfl|rfl|rfl|rfl<;>rfl
theorem CX{α:Type}(d:α){ord:α->α->Int}:∀(a b:List α)(k:Nat),a.length=b.length->k<a.length->(∀j,j<k->ord (a.getD j d) (b.getD j d)=0)->ord (a.getD k d) (b.getD k d)≠0->j8 ord a b=ord (a.getD k d) (b.getD k d)
 |[],_,k,_,h,_,_=>by simp at h
 |a::r,[],k,h,_,_,_=>by simp at h
 |a::r,b::s,0,h,_,_,h1=>by
  simp at h1⊢;rw[j8,if_neg h1]
 |a::r,b::s,k+1,h,hk,h0,h1=>by
  have z:=h0 0 (by omega);simp at z;rw[j8,if_pos z];have:=CX d r s k (by simpa using h) (by simpa using hk) (fun j hj=>by have:=h0 (j+1) (by omega);simpa using this) (by simpa using h1);simpa using this
theorem yZ{α:Type}(d:α){ord:α->α->Int}:∀(a b:List α),a.length=b.length->(∀j,j<a.length->ord (a.getD j d) (b.getD j d)=0)->j8 ord a b=0
 |[],[],_,_=>rfl
 |[],_::_,h,_=>by simp at h
 |a::r,[],h,_=>by simp at h
 |a::r,b::s,h,h0=>by
  have z:=h0 0 (by simp);simp at z;rw[j8,if_pos z];exact yZ d r s (by simpa using h) (fun j hj=>by have:=h0 (j+1) (by simpa using hj);simpa using this)
theorem sV(a b:Ru)(w:World)(ha:NR a)(hb:NR b):
 Calls Tryz.prog 65 #[.agg (kY a).toArray,.agg (kY b).toArray] w fun e w'=>e=.returned (.int .i64 (ie a b))∧LB w w':=by
 have HL:Hid (∀k,k<6->(∀j,j<k->my (a.getD j K.zero) (b.getD j K.zero)=0)->my (a.getD k K.zero) (b.getD k K.zero)≠0->ie a b=my (a.getD k K.zero) (b.getD k K.zero)):=fun k hk h0 h1=>CX K.zero a b k (by rw[ha.1,hb.1]) (by rw[ha.1];exact hk) h0 h1
 have HZ:Hid ((∀j,j<6->my (a.getD j K.zero) (b.getD j K.zero)=0)->ie a b=0):=fun h=>yZ K.zero a b (by rw[ha.1,hb.1]) (by rw[ha.1];exact h)
 have HM:Hid (∀k,De (a.getD k K.zero)∧De (b.getD k K.zero)):=fun k=>⟨Fl (ha.2 k),Fl (hb.2 k)⟩
 have HC:Hid (∀k w,Calls Tryz.prog 105 #[fC (a.getD k K.zero),fC (b.getD k K.zero)] w fun e w'=>e=.returned (.int .i64 (my (a.getD k K.zero) (b.getD k K.zero)))∧LB w w'):=fun k w=>tM _ _ w (ha.2 k).ok (hb.2 k).ok
 clear ha hb
 have B0:LB w ((w.alloc (.cells (kY a).toArray 117)).alloc (.cells (kY b).toArray 117)):=((LB.refl w).alloc _).alloc _
 have HX:Hid (∀wr,LB ((w.alloc (.cells (kY a).toArray 117)).alloc (.cells (kY b).toArray 117)) wr->∀k,k<6->wr.cell? ⟨w.heap.size,k,none⟩=some (gh (a.getD k K.zero))∧wr.cell? ⟨w.heap.size+1,k,none⟩=some (gh (b.getD k K.zero))):=by
  intro wr h k hk
  have e1:=CU a hk
  have e2:=CU b hk
  refine⟨(h.1.cell (p:=⟨w.heap.size,k,none⟩) (by simp;omega)).trans ?_,(h.1.cell (p:=⟨w.heap.size+1,k,none⟩) (by simp)).trans ?_⟩
  ·refine(((af (w.alloc (.cells (kY a).toArray 117)).heap.size _).alloc (ae _) _).cell (p:=⟨w.heap.size,k,none⟩) (by simp)).trans ?_
   simp[e1]
  ·have e:w.heap.size+1=(w.alloc (.cells (kY a).toArray 117)).heap.size:=by simp
   rw[e];simp[e2]
 generalize ie a b=R at*
 have ea:(kY a).toArray= #[gh (a.getD 0 K.zero),gh (a.getD 1 K.zero),gh (a.getD 2 K.zero),gh (a.getD 3 K.zero),gh (a.getD 4 K.zero),gh (a.getD 5 K.zero)]:=rfl
 have eb:(kY b).toArray= #[gh (b.getD 0 K.zero),gh (b.getD 1 K.zero),gh (b.getD 2 K.zero),gh (b.getD 3 K.zero),gh (b.getD 4 K.zero),gh (b.getD 5 K.zero)]:=rfl
 rw[ea,eb]at HX B0⊢
 clear ea eb
 generalize gh (a.getD 0 K.zero)=v0 at B0 HX⊢
 generalize gh (a.getD 1 K.zero)=v1 at B0 HX⊢
 generalize gh (a.getD 2 K.zero)=v2 at B0 HX⊢
 generalize gh (a.getD 3 K.zero)=v3 at B0 HX⊢
 generalize gh (a.getD 4 K.zero)=v4 at B0 HX⊢
 generalize gh (a.getD 5 K.zero)=v5 at B0 HX⊢
 generalize gh (b.getD 0 K.zero)=u0 at B0 HX⊢
 generalize gh (b.getD 1 K.zero)=u1 at B0 HX⊢
 generalize gh (b.getD 2 K.zero)=u2 at B0 HX⊢
 generalize gh (b.getD 3 K.zero)=u3 at B0 HX⊢
 generalize gh (b.getD 4 K.zero)=u4 at B0 HX⊢
 generalize gh (b.getD 5 K.zero)=u5 at B0 HX⊢
 go_enter Tryz.func65,Tryz.ntmps65
 go_wp2_with fail
 generalize(w.alloc (.cells #[v0,v1,v2,v3,v4,v5] 117)).alloc (.cells #[u0,u1,u2,u3,u4,u5] 117)=W at*
 go_loopw [7](fun i wr=>∃k:Nat,k<=6∧i=.int .i64 k∧Hid (∀j,j<k->my (a.getD j K.zero) (b.getD j K.zero)=0)∧LB W wr)(fun i _=>6-(intOf i).toNat)
 case atStart=>exact⟨0,by omega,rfl,fun j hj=>by omega,LB.refl W⟩
 case round=>
  obtain⟨k,hk,rfl,HJ,hLB⟩:=hrel
  rename World=>W0
  by_cases hk6:k<6
  ·obtain⟨c0,d0⟩:=HX.out W0 hLB k hk6
   obtain⟨⟨T,P,F,e1,e2,e4,e5,HF⟩,⟨T',P',F',e1',e2',e4',e5',HF'⟩⟩:=HM.out k
   have HFk:Hid (∀w,Calls Tryz.prog F #[P] w fun e w'=>e=.returned (fC (a.getD k K.zero))∧LB w w'):=HF
   have HFk':Hid (∀w,Calls Tryz.prog F' #[P'] w fun e w'=>e=.returned (fC (b.getD k K.zero))∧LB w w'):=HF'
   have HCk:Hid (∀w,Calls Tryz.prog 105 #[fC (a.getD k K.zero),fC (b.getD k K.zero)] w fun e w'=>e=.returned (.int .i64 (my (a.getD k K.zero) (b.getD k K.zero)))∧LB w w'):=HC.out k
   rw[e1]at c0
   rw[e1']at d0
   have hk6':(k:Int)<6:=by omega
   have HL1:Hid (my (a.getD k K.zero) (b.getD k K.zero)≠0->R=my (a.getD k K.zero) (b.getD k K.zero)):=fun h=>HL.out k hk6 HJ.out h
   have HJ1:Hid (my (a.getD k K.zero) (b.getD k K.zero)=0->∀j,j<k+1->my (a.getD j K.zero) (b.getD j K.zero)=0):=fun h j hj=>by
    by_cases hjk:j=k
    ·subst hjk;exact h
    ·exact HJ.out j (by omega)
   have SK:Hid (∀wa wb,LB wa wb->(LB W wa∧wa.cell? ⟨w.heap.size,k,none⟩=some (.iface T P)∧wa.cell? ⟨w.heap.size+1,k,none⟩=some (.iface T' P'))->(LB W wb∧wb.cell? ⟨w.heap.size,k,none⟩=some (.iface T P)∧wb.cell? ⟨w.heap.size+1,k,none⟩=some (.iface T' P'))):=fun wa wb hb⟨s,x,y⟩=>⟨s.trans hb,eh hb.1 x,eh hb.1 y⟩
   have hS0:=SK.out W0 W0.drew (LB.refl _).drew ⟨hLB,c0,d0⟩
   clear HF HF' HC HM HX HL HZ HJ e1 e1' c0 d0 hLB
   generalize my (a.getD k K.zero) (b.getD k K.zero)=Z at*
   generalize a.getD k K.zero=ca at*
   generalize b.getD k K.zero=cb at*
   obtain⟨ck,cx,cy⟩:=ca
   obtain⟨dk,dx,dy⟩:=cb
   simp only[fC]at HFk HFk' HCk
   go_wp2_with fail
   go_region_held3(fun w'=>LB W w'∧w'.cell? ⟨w.heap.size,k,none⟩=some (.iface T P)∧w'.cell? ⟨w.heap.size+1,k,none⟩=some (.iface T' P'))
    (assumption)
    (first
     |(go_at_call 105;refine(HCk.out _).mono ?_;rintro _ w9⟨rfl,hb9⟩;have hS9:=SK.out _ _ hb9 (by assumption))
     |(refine(HFk.out _).mono ?_;rintro _ w8⟨rfl,hb8⟩;have hS8:=SK.out _ _ hb8 (by assumption))
     |(refine(HFk'.out _).mono ?_;rintro _ w7⟨rfl,hb7⟩;have hS7:=SK.out _ _ hb7 (by assumption)))
   all_goals
    have B1:LB W w9:=hS9.1
    clear hS9 hb9
    by_cases hZ:Z=0
    ·subst hZ
     have HJ2:Hid (∀j,j<k+1->my (a.getD j K.zero) (b.getD j K.zero)=0):=HJ1.out rfl
     go_wp2
     go_roundw
     case rel=>exact⟨k+1,by omega,by go_num,HJ2,B1⟩
     case measure=>simp[intOf];omega
    ·have hR:R=Z:=HL1.out hZ
     subst hR
     have hZ':(R !=0)=true:=by simpa using hZ
     have hZ2:(R==0)=false:=by simpa using hZ
     clear hZ HL1 HJ1
     go_wp2
     go_ret
     exact⟨rfl,B0.trans B1⟩
  ·have hk':k=6:=by omega
   subst hk'
   have hR:R=0:=HZ.out HJ.out
   subst hR
   clear HZ HL HM HC HX HJ
   go_wp2
   go_ret
   exact⟨rfl,B0.trans hLB⟩
end Go.Proofs.YtdihdapmphkhpaaGreat
namespace Go.Proofs.YtdihdapmphkhpaaGreat
open Go.Shelf Go.RowKit Go.Lib Go.Sort
section
variable{α:Type}
def og(enc:α->List Value)(k:Nat)(g:Nat->α)(j:Nat):Value:=(enc (g (j/k))).getD (j%k) undef
theorem j5{enc:α->List Value}{k:Nat}(g:Nat->α)(i:Nat){r:Nat}(hr:r<k):og enc k g (i*k+r)=(enc (g i)).getD r undef:=by
 have h1:(i*k+r)/k=i:=by
  rw[cV,Nat.mul_add_div (by omega),Nat.div_eq_of_lt hr,cA]
 have h2:(i*k+r)%k=r:=by
  rw[cV,Nat.mul_add_mod,cL hr]
 rw[og,h1,h2]
theorem GI{i n k r:Nat}(hi:i<n)(hr:r<k):i*k+r<n*k:=by
 have:(i+1)*k<=n*k:=cE k hi;rw[Nat.succ_mul]at this;omega
def ic(t:Nat)(enc:α->List Value)(k:Nat)(w:World)(D N n:Nat)(g:Nat->α):Prop:=n<=N∧∃f,w.rowIs D t (N*k) f∧∀j,j<n*k->f j=og enc k g j
variable{t k:Nat}{enc:α->List Value}
theorem ic.lt{w:World}{D N n:Nat}{g:Nat->α}(h:ic t enc k w D N n g):D<w.heap.size:=by
 obtain⟨_,f,hr,_⟩:=h;exact hr.lt
theorem ic.ey{w w1:World}{D N n:Nat}{g:Nat->α}(h:ic t enc k w D N n g)(hb:Below w.heap.size w w1):ic t enc k w1 D N n g:=by
 obtain⟨hn,f,hr,hf⟩:=h;exact⟨hn,f,hr.of_block (hb.block D hr.lt),hf⟩
theorem ic.cell{w:World}{D N n i r:Nat}{g:Nat->α}(h:ic t enc k w D N n g)(hi:i<n)(hr:r<k):w.cell? ⟨D,i*k+r,none⟩=some ((enc (g i)).getD r undef):=by
 obtain⟨hn,f,hrow,hf⟩:=h;rw[hrow.cell (GI (by omega) hr),hf _ (GI hi hr),j5 g i hr]
theorem ic.open{w:World}{D N n:Nat}{g:Nat->α}(h:ic t enc k w D N n g)(j:Nat)(hj:j<N*k):∃v,w.cell? ⟨D,j,none⟩=some v∧w.frozen? ⟨D,j,none⟩=false:=by
 obtain⟨hn,f,hr,hf⟩:=h;exact⟨_,hr.cell hj,hr.frozen j⟩
theorem kO{D t n:Nat}:∀(vs:List Value)(o:Nat)(w:World)(f:Nat->Value),w.rowIs D t n f->(w.setCells D o vs).rowIs D t n (fun j=>if o<=j∧j<o+vs.length then vs.getD (j-o) undef else f j)
 |[],o,w,f,h=>by
  have e:(fun j=>if o<=j∧j<o+([]:List Value).length then([]:List Value).getD (j-o) undef else f j)=f:=funext fun j=>if_neg (by simp)
  rw[e];exact h
 |v::r,o,w,f,h=>by
  have:=kO r (o+1) _ _ (h.set o v);have e:(fun j=>if o<=j∧j<o+(v::r).length then(v::r).getD (j-o) undef else f j)=(fun j=>if o+1<=j∧j<o+1+r.length then r.getD (j-(o+1)) undef else if j=o then v else f j):=by
   funext j;simp only[aq];by_cases h0:j=o
   ·subst h0;rw[if_pos (by omega),if_neg (by omega),if_pos rfl];simp
   by_cases h1:o+1<=j∧j<o+1+r.length
   ·rw[if_pos (by omega),if_pos h1,show j-o=(j-(o+1))+1 by omega];simp
   rw[if_neg (by omega),if_neg h1,if_neg h0]
  rw[e];exact this
theorem oo{B D:Nat}{W:World}(hD:B<=D):∀(vs:List Value)(o:Nat)(w:World),Below B W w->Below B W (w.setCells D o vs)
 |[],_,_,h=>h
 |v::r,o,w,h=>oo hD r (o+1) _ (h.setCell (p:=⟨D,o,none⟩) hD v)
theorem ic.set{w:World}{D N n:Nat}{g:Nat->α}(h:ic t enc k w D N n g)(i:Nat)(p:α)(hk:(enc p).length=k)(h0:0<k):ic t enc k (w.setCells D (i*k) (enc p)) D N n (fun j=>if j=i then p else g j):=by
 obtain⟨hn,f,hr,hf⟩:=h;refine⟨hn,_,kO (enc p) (i*k) w f hr,fun j hj=> ?_⟩;have hj':=hf j hj;obtain⟨q,r,hr',rfl⟩:∃q r,r<k∧j=q*k+r:=⟨j/k,j%k,Nat.mod_lt _ h0,by rw[cV];exact(Nat.div_add_mod j k).symm⟩;rw[j5 _ q hr'];rw[j5 _ q hr']at hj';rw[hk];by_cases e:q=i
 ·subst e;rw[if_pos (by omega),if_pos rfl];congr 1;omega
 rw[if_neg,if_neg e]
 ·exact hj'
 rintro⟨h1,h2⟩;rcases dJ e with g1|g1
 ·have:(q+1)*k<=i*k:=cE k g1;rw[Nat.succ_mul]at this;omega
 have:(i+1)*k<=q*k:=cE k g1;rw[Nat.succ_mul]at this;omega
theorem ic.clear{w:World}{D N n m:Nat}{g:Nat->α}(h:ic t enc k w D N n g)(hm:m<=n)(vs:List Value):ic t enc k (w.setCells D (m*k) vs) D N m g:=by
 obtain⟨hn,f,hr,hf⟩:=h;refine⟨by omega,_,kO vs (m*k) w f hr,fun j hj=> ?_⟩;rw[if_neg (by omega)];exact hf j (an hj (cE k hm))
def ft(g:Nat->α)(n:Nat):List α:=(List.range n).map g
theorem iK(g:Nat->α)(n:Nat):(ft g n).length=n:=by simp[ft]
theorem jb(g:Nat->α){n i:Nat}(h:i<n):(ft g n)[i]'(by rw[iK];exact h)=g i:=by simp[ft]
theorem EF(g:Nat->α){n k:Nat}(h:k<=n):(ft g n).take k=ft g k:=by
 unfold ft;rw[<-List.map_take,List.take_range,Nat.min_eq_left h]
theorem nC(g:Nat->α)(n:Nat):ft g (n+1)=ft g n++[g n]:=by simp[ft,cC]
theorem Br{g g':Nat->α}{n:Nat}(h:∀i,i<n->g i=g' i):ft g n=ft g' n:=by
 unfold ft;apply dD;intro i hi;rw[h i (by simpa using hi)]
variable{ord:α->α->Int}
theorem uj(L:Lin ord)(g:Nat->α){n q:Nat}(h:q+1<n)(he:ord (g (q+1)) (g q)=0):gQ ord (ft g n) (q+2)=gQ ord (ft g n) (q+1):=
 Cx L (by rw[iK];exact h) (by rw[jb g h,jb g (by omega)];exact he)
theorem Ce(L:Lin ord)(g:Nat->α){n q:Nat}(h:q+1<n)(he:ord (g (q+1)) (g q)≠0):gQ ord (ft g n) (q+2)=gQ ord (ft g n) (q+1)++[g (q+1)]:=by
 rw[uI L (by rw[iK];exact h) (by rw[jb g h,jb g (by omega)];exact he),jb g h]
theorem sj(L:Lin ord)(g:Nat->α){n q:Nat}(h:q<=n)(hd:∀j,0<j->j<q->ord (g j) (g (j-1))≠0):gQ ord (ft g n) q=ft g q:=by
 rw[Ex L (by rw[iK];exact h) (fun j hj=> ?_),EF g h];rw[jb g (by omega),jb g (by omega)];exact hd (j+1) (by omega) hj
theorem iy{B:Nat}{W wa wb:World}(hBW:B<=W.heap.size)(hb:Below wa.heap.size wa wb)(h:Below B W wa):Below B W wb:=h.trans (hb.mono (aW hBW h.size))
theorem Ep [Inhabited α](enc:α->List Value)(k:Nat)(w:World)(D off m:Nat)(dk:Array α)(os:Array Obj){j:Nat}(hj:j<w.heap.size)(hne:j≠D):(sortWorldK enc k w D off m dk os).heap[j]? =w.heap[j]? :=by
 unfold sortWorldK putRowK putRow;rw[heap_grow_old _ _ (by simpa[mapBlock,Sort.ahead]using hj)];simp only[mapBlock,Sort.ahead,aH];rw[if_neg (fun e=>hne e.symm)]
theorem IA [Inhabited α](enc:α->List Value)(k:Nat){w:World}{D m t n:Nat}{f:Nat->Value}(dk:Array α)(os:Array Obj)(h:w.rowIs D t n f):(sortWorldK enc k w D 0 m dk os).rowIs D t n (fun j=>if j<dk.size*k then(flatK enc k dk)[j]! else f j):=by
 have hlt:=h.lt;obtain⟨c,hc,hs,hv⟩:=h;refine⟨putCells id 0 (flatK enc k dk) c,?_,by simpa[putCells]using hs,fun i hi=> ?_⟩
 ·unfold sortWorldK putRowK putRow;rw[heap_grow_old _ _ (by simpa[mapBlock,Sort.ahead]using hlt)];simp only[mapBlock,Sort.ahead,aH,if_true,hc,Option.map_some,onCells]
 simp only[putCells,Array.getElem?_mapIdx,hv i hi,Option.map_some,Nat.zero_le,true_and,aC,size_flatK,dY,id]
theorem DQ [Inhabited α](enc:α->List Value)(k:Nat){B:Nat}{W w:World}{D m:Nat}(dk:Array α)(os:Array Obj)(hb:Below B W w)(hD:B<=D)(hBw:B<=w.heap.size):Below B W (sortWorldK enc k w D 0 m dk os):=
 hb.trans ⟨rfl,rfl,rfl,by simp only[sortWorldK,putRowK,size_grow,size_putRow];exact Nat.le_add_right _ _,fun j hj=>Ep enc k w D 0 m dk os (by omega) (by omega)⟩
theorem swo_of(L:Lin ord):SWO (ltOf ord)where
 irrefl:=fun x=>by simp[ltOf,L.self]
 trans:=fun x y z h h'=>decide_eq_true (L.trans _ _ _ (of_decide_eq_true h) (of_decide_eq_true h'))
 ntrans:=fun x y z h h'=>by
  have h1:¬ord x y<0:=of_decide_eq_false h;have h2:¬ord y z<0:=of_decide_eq_false h';refine decide_eq_false (show¬ord x z<0 from ?_);have e1:=L.tE x y;have e2:=L.tE y z;have e3:=L.tE x z;have:=L.le_trans (a:=z) (b:=y) (c:=x) (by omega) (by omega);omega
theorem H8 [Inhabited α]{P:Program}{F:Nat}{fv:Value}(L:Lin ord)(hlen:∀x,(enc x).length=k)(h0:0<k)(B D N n cap:Nat)(g:Nat->α)(W w:World)(hBW:B<=W.heap.size)(hb:Below B W w)(hD:B<=D)(hr:ic t enc k w D N n g)
 (HS:∀d:Array α,d.size=n->HoldsK enc k w D 0 d->D<w.heap.size->Calls P F #[.slice (some ⟨D,0,none⟩) d.size cap,fv] w fun e w'=>e=.returned (.tuple #[])∧∃d' m os,PermIn 0 d.size d d'∧SortedIn (ltOf ord) 0 d.size d'∧w'=sortWorldK enc k w D 0 m d' os):
 Calls P F #[.slice (some ⟨D,0,none⟩) n cap,fv] w fun e w'=>e=.returned (.tuple #[])∧
  ∃g',ic t enc k w' D N n g'∧(∀c,c∈ft g' n↔c∈ft g n)∧(ft g' n).Pairwise (fun a b=>ord a b<=0)∧Below B W w':=by
 have hBw:B<=w.heap.size:=aW hBW hb.size
 obtain⟨d,hd⟩:∃d:Array α,d=(ft g n).toArray:=⟨_,rfl⟩
 have hds:d.size=n:=by rw[hd];simp[ft]
 have hdi:∀i,i<n->d[i]! =g i:=by intro i hi;rw[hd];simp[ft,hi]
 have flat:∀(x:Array α)(q:Nat->α),x.size=n->(∀i,i<n->x[i]! =q i)->∀j,j<n*k->(flatK enc k x)[j]! =og enc k q j:=by
  intro x q hx hq j hj
  have hjk:j/k<n:=Nat.div_lt_of_lt_mul (by rw[cV];exact hj)
  rw[get_flatK _ _ _ _ (by rw[hx];exact hj),og,hq _ hjk]
  have hm:j%k<(enc (q (j/k))).length:=by rw[hlen];exact Nat.mod_lt _ h0
  simp[aa,hm]
 have hH:HoldsK enc k w D 0 d:=by
  obtain⟨hnN,f0,hrow,hf0⟩:=hr
  intro j hj
  rw[size_flatK,hds]at hj
  rw[aC,hrow.cell (an hj (cE k hnN)),hf0 j hj,flat d g hds hdi j hj]
  exact⟨rfl,hrow.frozen j⟩
 have hS:=HS d hds hH hr.lt
 rw[hds]at hS
 refine hS.mono ?_
 rintro e w'⟨rfl,d',n',os,hp,hs,rfl⟩
 obtain⟨p1,p2,p3⟩:=hp
 rw[hds]at p1
 have ex:∀(x:Array α),x.size=n->x.extract 0 n=x:=fun x hx=>by rw[<-hx];exact Array.extract_size
 rw[ex d' p1,ex d hds]at p3
 have el:∀(x:Array α),x.size=n->ft (fun i=>x[i]!) n=x.toList:=by
  intro x hx
  apply dz
  ·simp[ft,hx]
  ·intro i h1 h2
   rw[iK]at h1
   simp[ft,show i<x.size by omega]
 refine⟨rfl,fun i=>d'[i]!,?_,?_,?_,DQ enc k d' os hb hD hBw⟩
 ·obtain⟨hnN,f0,hrow,hf0⟩:=hr
  refine⟨hnN,_,IA enc k d' os hrow,fun j hj=> ?_⟩
  rw[if_pos (by rw[p1];exact hj)]
  exact flat d' _ p1 (fun i hi=>rfl) j hj
 ·intro c
  rw[el d' p1,p3.mem_iff,hd]
 ·rw[dt]
  intro i j hi hj hij
  rw[iK]at hi hj
  have h1:=hs i j (Nat.zero_le _) hij hj
  have h2:¬ord d'[j]! d'[i]! <0:=of_decide_eq_false h1
  have e:=L.tE d'[i]! d'[j]!
  rw[jb _ hi,jb _ hj]
  omega
theorem kX(hlen:∀x,(enc x).length=k)(g:Nat->α):∀n,((ft g n).flatMap enc).length=n*k
 |0=>by simp[ft]
 |n+1=>by rw[nC,bY,aj,kX hlen g n];simp[hlen,Nat.succ_mul]
theorem oI(hlen:∀x,(enc x).length=k)(g:Nat->α):∀n j,j<n*k->((ft g n).flatMap enc)[j]? =some (og enc k g j)
 |0,j,h=>by simp at h
 |n+1,j,h=>by
  rw[nC,bY];by_cases hj:j<n*k
  ·rw[aD (by rw[kX hlen];exact hj)];exact oI hlen g n j hj
  rw[aw (by rw[kX hlen];omega),kX hlen];obtain⟨r,rfl⟩:∃r,j=n*k+r:=⟨j-n*k,by omega⟩;have hr:r<k:=by rw[Nat.succ_mul]at h;omega
  rw[j5 g n hr,show n*k+r-n*k=r by omega];have:r<(enc (g n)).length:=by rw[hlen];exact hr
  simp[aa,this]
theorem zi(hlen:∀x,(enc x).length=k){w:World}{base n:Nat}{v:Value}{g:Nat->α}(h0:0<n)(h:w.ownsRow base t k v n ((ft g n).flatMap enc)):∃D N,v=.slice (some ⟨D,0,none⟩) n N∧base<=D∧n<=N∧ic t enc k w D N n g:=by
 obtain⟨_,h|⟨D,cap,cur,rfl,hb,hgc,hn,hm,hs,hx⟩⟩:=h
 ·omega
 refine⟨D,cap,rfl,hb,hn,hn,fun j=>cur.getD j undef,⟨cur,hgc,hs,fun i hi=>by simp[hs,hi]⟩,fun j hj=> ?_⟩;have hu:=oI hlen g n j hj;rw[<-hx,bP,if_pos hj,Array.getElem?_toList]at hu;simp[Array.getD_eq_getD_getElem?,hu]
def SrcF(enc:α->List Value)(k:Nat)(w:World)(b o:Nat)(n:Nat)(g:Nat->α):Prop:=b<w.heap.size∧∀j,j<n*k->w.cell? ⟨b,o+j,none⟩=some (og enc k g j)
theorem SrcF.below{w w1:World}{b o:Nat}{n:Nat}{g:Nat->α}(h:SrcF enc k w b o n g)(hb:Below w.heap.size w w1):SrcF enc k w1 b o n g:=
 ⟨an h.1 hb.size,fun j hj=>(hb.cell (p:=⟨b,o+j,none⟩) h.1).trans (h.2 j hj)⟩
theorem ic.src{w:World}{D N n:Nat}{g:Nat->α}(h:ic t enc k w D N n g):SrcF enc k w D 0 n g:=by
 refine⟨h.lt,fun j hj=> ?_⟩;obtain⟨hn,f,hr,hf⟩:=h;rw[aC,hr.cell (an hj (cE k hn)),hf j hj]
def GD(t:Nat)(enc:α->List Value)(k:Nat)(w:World)(B:Nat)(v:Value)(m:Nat)(g:Nat->α):Prop:=∃D N,v=.slice (some ⟨D,0,none⟩) m N∧B<=D∧m<=N∧ic t enc k w D N m g
end
end Go.Proofs.YtdihdapmphkhpaaGreat
